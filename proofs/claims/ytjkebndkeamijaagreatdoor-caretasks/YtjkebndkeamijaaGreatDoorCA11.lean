/-
  PROVED HERE: what the texts DALayName, DABackw say.
-/
import Derived.Test.YtjkebndkeamijaaGreatDoorCA10
set_option maxRecDepth 100000
set_option maxHeartbeats 4000000
namespace Go.Proofs.YtjkebndkeamijaaGreatDoor
open Go.RowKit
theorem k54{p:Prop}(h:p:=by
  rintro e W ⟨rfl,hSW,A', hP', hF'⟩;refine hK.out _ _ hSW (fun _=>?_);clear hK K
  try simp only[gQ]
  refine gA 21 (some 6) hSW ?_ (hy:=by intro w hSw;obtain⟨s1,s2,s3,s4⟩:=hSw;(try go_simp);with_reducible rfl);refine wpAnyH_done kr ?_ _;go_wp2;go_ret;exact⟨rfl,A', hP', hF'⟩
  ):p:=h
theorem gHy (W0:World)(gs:List Grp)(ga:Option Addr)(gl gc:Nat)(hG:iS W0 ga gl gs)(hgr:kB gs=true)(s:ByteArray)(a:Option Addr)(len cap:Nat)(w:World)(next:Nat)(A:Nat->Prop)(B:Nat)(L:List gD)(hB:Below W0.heap.size W0 w)(_hA:∀b,A b->W0.heap.size<=b)
  (hP:iA A w B (.slice ga gl gc) L)(hwf:wf L)(hn:next<L.length)(hlen:L.length<=1000000000) :
  Calls Tryz.prog 118 #[.pointer (some ⟨B,0,none⟩),.agg #[.int .i64 1,.string s,.slice a len cap],.int .i64 (next:Int)] w fun e w' => e=.returned (.int .i64 (L.length:Int))/\∃A', iA A' w' B (.slice ga gl gc) (L++[(kD gs s,[next],gG L next+1)])/\Fr A w A' w' := by
 have hbase:=hB.size
 obtain⟨w3,hw3⟩:∃w3,w3=qK w B 1 s a len cap next:=⟨_,rfl⟩
 have hs3:w3.heap.size=w.heap.size+3:=by rw[hw3,mJ]
 have hb3:Below w.heap.size w w3:=by rw[hw3];exact nK ..
 obtain⟨v,rs,hP0⟩:=hP.tight
 obtain⟨g,cp,rfl,hc⟩:=hP0.cells oo
 obtain⟨p0,p1,_⟩:=mN hP0.plan
 have hBlt:B<w.heap.size:=(zza.1 hP0.plan).1
 have hglt:g<w.heap.size:=(gC hP0.row (g:=g) rfl).1
 obtain⟨x,hx,ex⟩:=gDn hn
 have cl:=(hc next x hx).2.1
 rw[ex] at cl
 have HS:Hid (∀X:World,Below w3.heap.size w3 X->(X.cell? ⟨w.heap.size,0,none⟩=some (.pointer (some ⟨B,0,none⟩))/\X.cell? ⟨w.heap.size+1,1,none⟩=some (.string s)/\X.cell? ⟨w.heap.size+2,0,none⟩=some (.int .i64 (next:Int))/\X.cell? ⟨B,0,none⟩=some (.slice ga gl gc))/\X.cell? ⟨B,1,none⟩=some (.slice (some ⟨g,0,none⟩) L.length cp)/\X.cell? ⟨g,next * 3+2,none⟩=some (.int .i64 (gG L next:Int))):=by
  intro X hX;obtain⟨d0,_,d2,_,d4⟩:=oJ (w:=w) (X:=X) (B:=B) (k:=1) (s:=s) (a:=a) (len:=len) (cap:=cap) (next:=next) (fun b hb=>by rw[<-hw3];exact hX.block _ oo);(have hold:∀(b j:Nat),b<w.heap.size->X.cell? ⟨b,j,none⟩=w.cell? ⟨b,j,none⟩:=fun b j hb=>(hX.cell (p:=⟨b,j,none⟩) (by show b<_;omega)).trans (hb3.cell (p:=⟨b,j,none⟩) hb));exact⟨⟨d0,d2,d4,(hold B 0 hBlt).trans p0⟩,(hold B 1 hBlt).trans p1,(hold g _ hglt).trans cl⟩
 have HT:Hid (∀X:World,Below w3.heap.size w3 X->Calls Tryz.prog 147 #[.string s,.slice ga gl gc] X fun e w' => e=.returned (.int .u16 (kD gs s:Int))/\Below X.heap.size X w'):=fun X hX=>yW s ga gl gc gs X (((hG.below hB).below hb3).below hX) hgr
 have HA:Hid (∀(X:World) (b:Nat),Below w3.heap.size w3 X->w3.heap.size<=b->X.ownsRow 0 3 1 (.slice (some ⟨b,0,none⟩) 1 1) 1 (lU [next])->Calls Tryz.prog 146 #[.pointer (some ⟨B,0,none⟩),.agg #[.int .u16 (kD gs s:Int),.slice (some ⟨b,0,none⟩) 1 1,.int .i64 ((gG L next:Int)+1)]] X fun e w' => e=.returned (.int .i64 (L.length:Int)) ∧
   (w'.cell? ⟨w.heap.size,0,none⟩=some (.pointer (some ⟨B,0,none⟩))/\w'.cell? ⟨w.heap.size+1,1,none⟩=some (.string s)/\w'.cell? ⟨w.heap.size+2,0,none⟩=some (.int .i64 (next:Int))/\w'.cell? ⟨B,0,none⟩=some (.slice ga gl gc))/\∃A', iA A' w' B (.slice ga gl gc) (L++[(kD gs s,[next],gG L next+1)])/\Fr A w A' w'):=by
  intro X b hX hb hrow;have hbX:Below w.heap.size w X:=hb3.trans (hX.mono oo);have hPX:iA (fun b=>A b/\b<w.heap.size) X B (.slice ga gl gc) L:=iA.kept ⟨_,rs,hP0⟩ (fun _ h=>h) fun k hk _=>hbX.block k hk
  have:=gJv (fun b=>A b/\b<w.heap.size) B (.slice ga gl gc) L X (kD gs s) (gG L next+1) [next] _ 1 1 hPX hrow (fun g' hg' h=>by have:=pA hg';have:=h.2;omega) oo
  rw[show ((gG L next+1:Nat):Int)=(gG L next:Int)+1 from by omega] at this;refine this.mono ?_;rintro e W ⟨rfl,A', hP', hF'⟩
  have hFw:Fr A w A' W:=((Fr.of_below hbX).trans hF').less (by
   rintro k (h | h)
   ·exact .inl h.1
   ·have:=pA h
    exact .inr oo)
  have hsize:=hX.size
  obtain⟨d0,_,d2,_,d4⟩:=oJ (w:=w) (X:=W) (B:=B) (k:=1) (s:=s) (a:=a) (len:=len) (cap:=cap) (next:=next) (fun j hj=>by
   rw[<-hw3,<-hX.block _ oo];refine hF'.same _ oo ?_;rintro (h | h)
   ·have:=h.2
    omega
   ·have:=pA h
    omega)
  obtain⟨v', rs', hP''⟩:=id hP';exact⟨rfl,⟨d0,d2,d4,(mN hP''.plan).1⟩,A', hP', hFw⟩
 have hll:(gG L next:Int)<=1000000000:=by have:=hwf.least_lt next;omega
 have hl0:(0:Int)<=(gG L next:Int):=by omega
 have hni:(next:Int)<(L.length:Int):=by omega
 have hw3' : Hid (((w.alloc (.cells #[.pointer (some ⟨B,0,none⟩)] 164)).alloc (.cells #[.int .i64 1,.string s,.slice a len cap] 69)).alloc (.cells #[.int .i64 (next:Int)] 3)=w3):=hw3.symm
 have HNW:Hid (∀(X:World),Below w3.heap.size w3 X->Below w3.heap.size w3 (X.alloc (.cells #[.int .i64 (next:Int)] 3))/\w3.heap.size<=X.heap.size/\(X.alloc (.cells #[.int .i64 (next:Int)] 3)).ownsRow 0 3 1 (.slice (some ⟨X.heap.size,0,none⟩) 1 1) 1 (lU [next])):=fun X hX=>⟨hX.alloc hX.size _,hX.size,gIv X next⟩
 have HKR:Hid (∀(X Y:World) (b:Nat),Below X.heap.size X Y->X.ownsRow 0 3 1 (.slice (some ⟨b,0,none⟩) 1 1) 1 (lU [next])->Y.ownsRow 0 3 1 (.slice (some ⟨b,0,none⟩) 1 1) 1 (lU [next])):=fun X Y b hXY h=>gF h fun g' hg' => hXY.block g' (gC h hg').1
 generalize ((kD gs s:Nat):Int)=m at *
 generalize kD gs s=m' at *
 generalize ((gG L next:Nat):Int)=ln at *
 have hwr:IntKind.i64.wrap (ln+1)=ln+1:=by rw[IntKind.wrap_i64];omega
 clear hP hP0 hc hx ex cl hG hgr hwf p0 p1 hb3 hB _hA hw3
 have hw3' := hw3'
 go_enter Tryz.func118,Tryz.ntmps118
 go_wp2_with fail
 rw[hw3'.out]
 have hX0:Below w3.heap.size w3 w3.drew:=(zzd _ w3).drew
 have hS:=(HS.out _ hX0).1
 refine wp_region_held_drew (S:=fun X=>X.cell? ⟨w.heap.size,0,none⟩=some (.pointer (some ⟨B,0,none⟩))/\X.cell? ⟨w.heap.size+1,1,none⟩=some (.string s)/\X.cell? ⟨w.heap.size+2,0,none⟩=some (.int .i64 (next:Int))/\X.cell? ⟨B,0,none⟩=some (.slice ga gl gc)) hmx hS (fun hS=>?_)
 obtain⟨Y0,hY0⟩:∃Y0,w3.drew=Y0:=⟨_,rfl⟩
 rw[hY0] at hX0 hS ⊢
 clear hY0
 refine gA 0 (some 20) hS ?_ (hy:=by intro w hSw;obtain⟨s1,s2,s3,s4⟩:=hSw;go_simp;with_reducible rfl)
 refine gA 1 (some 21) hS ?_ (hy:=by intro w hSw;obtain⟨s1,s2,s3,s4⟩:=hSw;go_simp;with_reducible rfl)
 refine gA 2 (some 22) hS ?_ (hy:=by intro w hSw;obtain⟨s1,s2,s3,s4⟩:=hSw;go_simp;with_reducible rfl)
 refine gA 3 (some 23) hS ?_ (hy:=by intro w hSw;obtain⟨s1,s2,s3,s4⟩:=hSw;go_simp;with_reducible rfl)
 refine gA 4 (some 24) hS ?_ (hy:=by intro w hSw;obtain⟨s1,s2,s3,s4⟩:=hSw;go_simp;with_reducible rfl)
 refine gA 5 (some 25) hS ?_ (hy:=by intro w hSw;obtain⟨s1,s2,s3,s4⟩:=hSw;go_simp;with_reducible rfl)
 refine gA 6 (some 26) hS ?_ (hy:=by intro w hSw;obtain⟨s1,s2,s3,s4⟩:=hSw;go_simp;with_reducible rfl)
 refine gA 8 (some 28) hS ?_ (hy:=by intro w hSw;obtain⟨s1,s2,s3,s4⟩:=hSw;go_simp;with_reducible rfl)
 refine gA 10 (some 30) hS ?_ (hy:=by intro w hSw;obtain⟨s1,s2,s3,s4⟩:=hSw;go_simp;with_reducible rfl)
 refine gA 11 (some 31) hS ?_ (hy:=by intro w hSw;obtain⟨s1,s2,s3,s4⟩:=hSw;go_simp;with_reducible rfl)
 refine gA 12 (some 32) hS ?_ (hy:=by intro w hSw;obtain⟨s1,s2,s3,s4⟩:=hSw;go_simp;with_reducible rfl)
 refine gA 14 (some 34) hS ?_ (hy:=by intro w hSw;obtain⟨s1,s2,s3,s4⟩:=hSw;go_simp;with_reducible rfl)
 refine wpAnyH_ready (rs:=[7,9,13]) kr (by simp) (AllReadyH.cons rfl (fun K hK=>?_) (AllReadyH.cons rfl (fun K hK=>?_) (AllReadyH.cons rfl (fun K hK=>?_) AllReadyH.nil)))
 ·go_simp
  refine(HT.out _ hX0).mono ?_;rintro e Y1 ⟨rfl,hY1⟩;have hX1:Below w3.heap.size w3 Y1:=(hX0).trans (hY1.mono (hX0).size);refine hK.out _ _ (HS.out _ hX1).1 (fun _=>?_);clear hK K
  try simp only[gQ]
  refine wpAnyH_ready (rs:=[9,13]) kr (by simp) (AllReadyH.cons rfl (fun K hK=>?_) (AllReadyH.cons rfl (fun K hK=>?_) AllReadyH.nil))
  ·obtain⟨hX2,hb2,hR2⟩:=HNW.out _ hX1
   go_simp;refine hK.out _ _ (HS.out _ hX2).1 (fun _=>?_);clear hK K
   try simp only[gQ]
   refine gT 13 kr rfl (fun K hK=>?_);have f3a:=(HS.out _ hX2).2.1;have f3b:=(HS.out _ hX2).2.2;go_simp;refine hK.out _ _ (HS.out _ hX2).1 (fun _=>?_);clear hK K
   try simp only[gQ]
   refine jQ 15 (some 35) (v:=?_) (HS.out _ hX2).1 ?_ ?_
   rotate_left
   ·intro w hSw
    obtain⟨s1,s2,s3,s4⟩:=hSw;go_simp
    with_reducible rfl
   try simp only[gQ]
   refine jQ 16 (some 36) (v:=?_) (HS.out _ hX2).1 ?_ ?_
   rotate_left
   ·intro w hSw
    obtain⟨s1,s2,s3,s4⟩:=hSw;go_simp
    with_reducible rfl
   try simp only[gQ]
   refine gT 17 kr rfl (fun K hK=>?_);have f4a:=(HS.out _ hX2).2.1;have f4b:=(HS.out _ hX2).2.2;go_simp;refine hK.out _ _ (HS.out _ hX2).1 (fun _=>?_);clear hK K
   try simp only[gQ]
   refine jQ 18 (some 38) (v:=?_) (HS.out _ hX2).1 ?_ ?_
   rotate_left
   ·intro w hSw
    obtain⟨s1,s2,s3,s4⟩:=hSw;go_simp
    with_reducible rfl
   try simp only[gQ]
   refine jQ 19 (some 39) (v:=?_) (HS.out _ hX2).1 ?_ ?_
   rotate_left
   ·intro w hSw
    obtain⟨s1,s2,s3,s4⟩:=hSw;go_simp
    with_reducible rfl
   try simp only[gQ]
   refine gT 20 kr rfl (fun K hK=>?_);go_simp;refine(HA.out _ _ hX2 hb2 hR2).mono ?_;exact k54
  ·have f5a:=(HS.out _ hX1).2.1
   have f5b:=(HS.out _ hX1).2.2;go_simp;refine hK.out _ _ (HS.out _ hX1).1 (fun _=>?_);clear hK K
   try simp only[gQ]
   refine jQ 15 (some 35) (v:=?_) (HS.out _ hX1).1 ?_ ?_
   rotate_left
   ·intro w hSw
    obtain⟨s1,s2,s3,s4⟩:=hSw;go_simp
    with_reducible rfl
   try simp only[gQ]
   refine jQ 16 (some 36) (v:=?_) (HS.out _ hX1).1 ?_ ?_
   rotate_left
   ·intro w hSw
    obtain⟨s1,s2,s3,s4⟩:=hSw;go_simp
    with_reducible rfl
   try simp only[gQ]
   refine wpAnyH_ready (rs:=[9,17]) kr (by simp) (AllReadyH.cons rfl (fun K hK=>?_) (AllReadyH.cons rfl (fun K hK=>?_) AllReadyH.nil))
   ·obtain⟨hX6,hb6,hR6⟩:=HNW.out _ hX1
    go_simp;refine hK.out _ _ (HS.out _ hX6).1 (fun _=>?_);clear hK K
    try simp only[gQ]
    refine gT 17 kr rfl (fun K hK=>?_);have f7a:=(HS.out _ hX6).2.1;have f7b:=(HS.out _ hX6).2.2;go_simp;refine hK.out _ _ (HS.out _ hX6).1 (fun _=>?_);clear hK K
    try simp only[gQ]
    refine jQ 18 (some 38) (v:=?_) (HS.out _ hX6).1 ?_ ?_
    rotate_left
    ·intro w hSw
     obtain⟨s1,s2,s3,s4⟩:=hSw;go_simp
     with_reducible rfl
    try simp only[gQ]
    refine jQ 19 (some 39) (v:=?_) (HS.out _ hX6).1 ?_ ?_
    rotate_left
    ·intro w hSw
     obtain⟨s1,s2,s3,s4⟩:=hSw;go_simp
     with_reducible rfl
    try simp only[gQ]
    refine gT 20 kr rfl (fun K hK=>?_);go_simp;refine(HA.out _ _ hX6 hb6 hR6).mono ?_;exact k54
   ·have f8a:=(HS.out _ hX1).2.1
    have f8b:=(HS.out _ hX1).2.2;go_simp;refine hK.out _ _ (HS.out _ hX1).1 (fun _=>?_);clear hK K
    try simp only[gQ]
    refine jQ 18 (some 38) (v:=?_) (HS.out _ hX1).1 ?_ ?_
    rotate_left
    ·intro w hSw
     obtain⟨s1,s2,s3,s4⟩:=hSw;go_simp
     with_reducible rfl
    try simp only[gQ]
    refine gT 9 kr rfl (fun K hK=>?_);obtain⟨hX9,hb9,hR9⟩:=HNW.out _ hX1;go_simp;refine hK.out _ _ (HS.out _ hX9).1 (fun _=>?_);clear hK K
    try simp only[gQ]
    refine jQ 19 (some 39) (v:=?_) (HS.out _ hX9).1 ?_ ?_
    rotate_left
    ·intro w hSw
     obtain⟨s1,s2,s3,s4⟩:=hSw;go_simp
     with_reducible rfl
    try simp only[gQ]
    refine gT 20 kr rfl (fun K hK=>?_);go_simp;refine(HA.out _ _ hX9 hb9 hR9).mono ?_;exact k54
 ·obtain⟨hX10,hb10,hR10⟩:=HNW.out _ hX0
  go_simp;refine hK.out _ _ (HS.out _ hX10).1 (fun _=>?_);clear hK K
  try simp only[gQ]
  refine wpAnyH_ready (rs:=[7,13]) kr (by simp) (AllReadyH.cons rfl (fun K hK=>?_) (AllReadyH.cons rfl (fun K hK=>?_) AllReadyH.nil))
  ·go_simp
   refine(HT.out _ hX10).mono ?_;rintro e Y11 ⟨rfl,hY11⟩;have hX11:Below w3.heap.size w3 Y11:=(hX10).trans (hY11.mono (hX10).size);have hR11:=HKR.out _ _ _ hY11 hR10;refine hK.out _ _ (HS.out _ hX11).1 (fun _=>?_);clear hK K
   try simp only[gQ]
   refine gT 13 kr rfl (fun K hK=>?_);have f12a:=(HS.out _ hX11).2.1;have f12b:=(HS.out _ hX11).2.2;go_simp;refine hK.out _ _ (HS.out _ hX11).1 (fun _=>?_);clear hK K
   try simp only[gQ]
   refine jQ 15 (some 35) (v:=?_) (HS.out _ hX11).1 ?_ ?_
   rotate_left
   ·intro w hSw
    obtain⟨s1,s2,s3,s4⟩:=hSw;go_simp
    with_reducible rfl
   try simp only[gQ]
   refine jQ 16 (some 36) (v:=?_) (HS.out _ hX11).1 ?_ ?_
   rotate_left
   ·intro w hSw
    obtain⟨s1,s2,s3,s4⟩:=hSw;go_simp
    with_reducible rfl
   try simp only[gQ]
   refine gT 17 kr rfl (fun K hK=>?_);have f13a:=(HS.out _ hX11).2.1;have f13b:=(HS.out _ hX11).2.2;go_simp;refine hK.out _ _ (HS.out _ hX11).1 (fun _=>?_);clear hK K
   try simp only[gQ]
   refine jQ 18 (some 38) (v:=?_) (HS.out _ hX11).1 ?_ ?_
   rotate_left
   ·intro w hSw
    obtain⟨s1,s2,s3,s4⟩:=hSw;go_simp
    with_reducible rfl
   try simp only[gQ]
   refine jQ 19 (some 39) (v:=?_) (HS.out _ hX11).1 ?_ ?_
   rotate_left
   ·intro w hSw
    obtain⟨s1,s2,s3,s4⟩:=hSw;go_simp
    with_reducible rfl
   try simp only[gQ]
   refine gT 20 kr rfl (fun K hK=>?_);go_simp;refine(HA.out _ _ hX11 hb10 hR11).mono ?_;exact k54
  ·have f14a:=(HS.out _ hX10).2.1
   have f14b:=(HS.out _ hX10).2.2;go_simp;refine hK.out _ _ (HS.out _ hX10).1 (fun _=>?_);clear hK K
   try simp only[gQ]
   refine jQ 15 (some 35) (v:=?_) (HS.out _ hX10).1 ?_ ?_
   rotate_left
   ·intro w hSw
    obtain⟨s1,s2,s3,s4⟩:=hSw;go_simp
    with_reducible rfl
   try simp only[gQ]
   refine jQ 16 (some 36) (v:=?_) (HS.out _ hX10).1 ?_ ?_
   rotate_left
   ·intro w hSw
    obtain⟨s1,s2,s3,s4⟩:=hSw;go_simp
    with_reducible rfl
   try simp only[gQ]
   refine wpAnyH_ready (rs:=[7,17]) kr (by simp) (AllReadyH.cons rfl (fun K hK=>?_) (AllReadyH.cons rfl (fun K hK=>?_) AllReadyH.nil))
   ·go_simp
    refine(HT.out _ hX10).mono ?_;rintro e Y15 ⟨rfl,hY15⟩;have hX15:Below w3.heap.size w3 Y15:=(hX10).trans (hY15.mono (hX10).size);have hR15:=HKR.out _ _ _ hY15 hR10;refine hK.out _ _ (HS.out _ hX15).1 (fun _=>?_);clear hK K
    try simp only[gQ]
    refine gT 17 kr rfl (fun K hK=>?_);have f16a:=(HS.out _ hX15).2.1;have f16b:=(HS.out _ hX15).2.2;go_simp;refine hK.out _ _ (HS.out _ hX15).1 (fun _=>?_);clear hK K
    try simp only[gQ]
    refine jQ 18 (some 38) (v:=?_) (HS.out _ hX15).1 ?_ ?_
    rotate_left
    ·intro w hSw
     obtain⟨s1,s2,s3,s4⟩:=hSw;go_simp
     with_reducible rfl
    try simp only[gQ]
    refine jQ 19 (some 39) (v:=?_) (HS.out _ hX15).1 ?_ ?_
    rotate_left
    ·intro w hSw
     obtain⟨s1,s2,s3,s4⟩:=hSw;go_simp
     with_reducible rfl
    try simp only[gQ]
    refine gT 20 kr rfl (fun K hK=>?_);go_simp;refine(HA.out _ _ hX15 hb10 hR15).mono ?_;exact k54
   ·have f17a:=(HS.out _ hX10).2.1
    have f17b:=(HS.out _ hX10).2.2;go_simp;refine hK.out _ _ (HS.out _ hX10).1 (fun _=>?_);clear hK K
    try simp only[gQ]
    refine jQ 18 (some 38) (v:=?_) (HS.out _ hX10).1 ?_ ?_
    rotate_left
    ·intro w hSw
     obtain⟨s1,s2,s3,s4⟩:=hSw;go_simp
     with_reducible rfl
    try simp only[gQ]
    refine gT 7 kr rfl (fun K hK=>?_);go_simp;refine(HT.out _ hX10).mono ?_;rintro e Y18 ⟨rfl,hY18⟩;have hX18:Below w3.heap.size w3 Y18:=(hX10).trans (hY18.mono (hX10).size);have hR18:=HKR.out _ _ _ hY18 hR10;refine hK.out _ _ (HS.out _ hX18).1 (fun _=>?_);clear hK K
    try simp only[gQ]
    refine jQ 19 (some 39) (v:=?_) (HS.out _ hX18).1 ?_ ?_
    rotate_left
    ·intro w hSw
     obtain⟨s1,s2,s3,s4⟩:=hSw;go_simp
     with_reducible rfl
    try simp only[gQ]
    refine gT 20 kr rfl (fun K hK=>?_);go_simp;refine(HA.out _ _ hX18 hb10 hR18).mono ?_;exact k54
 ·have f19a:=(HS.out _ hX0).2.1
  have f19b:=(HS.out _ hX0).2.2;go_simp;refine hK.out _ _ (HS.out _ hX0).1 (fun _=>?_);clear hK K
  try simp only[gQ]
  refine jQ 15 (some 35) (v:=?_) (HS.out _ hX0).1 ?_ ?_
  rotate_left
  ·intro w hSw
   obtain⟨s1,s2,s3,s4⟩:=hSw;go_simp
   with_reducible rfl
  try simp only[gQ]
  refine jQ 16 (some 36) (v:=?_) (HS.out _ hX0).1 ?_ ?_
  rotate_left
  ·intro w hSw
   obtain⟨s1,s2,s3,s4⟩:=hSw;go_simp
   with_reducible rfl
  try simp only[gQ]
  refine wpAnyH_ready (rs:=[7,9,17]) kr (by simp) (AllReadyH.cons rfl (fun K hK=>?_) (AllReadyH.cons rfl (fun K hK=>?_) (AllReadyH.cons rfl (fun K hK=>?_) AllReadyH.nil)))
  ·go_simp
   refine(HT.out _ hX0).mono ?_;rintro e Y20 ⟨rfl,hY20⟩;have hX20:Below w3.heap.size w3 Y20:=(hX0).trans (hY20.mono (hX0).size);refine hK.out _ _ (HS.out _ hX20).1 (fun _=>?_);clear hK K
   try simp only[gQ]
   refine wpAnyH_ready (rs:=[9,17]) kr (by simp) (AllReadyH.cons rfl (fun K hK=>?_) (AllReadyH.cons rfl (fun K hK=>?_) AllReadyH.nil))
   ·obtain⟨hX21,hb21,hR21⟩:=HNW.out _ hX20
    go_simp;refine hK.out _ _ (HS.out _ hX21).1 (fun _=>?_);clear hK K
    try simp only[gQ]
    refine gT 17 kr rfl (fun K hK=>?_);have f22a:=(HS.out _ hX21).2.1;have f22b:=(HS.out _ hX21).2.2;go_simp;refine hK.out _ _ (HS.out _ hX21).1 (fun _=>?_);clear hK K
    try simp only[gQ]
    refine jQ 18 (some 38) (v:=?_) (HS.out _ hX21).1 ?_ ?_
    rotate_left
    ·intro w hSw
     obtain⟨s1,s2,s3,s4⟩:=hSw;go_simp
     with_reducible rfl
    try simp only[gQ]
    refine jQ 19 (some 39) (v:=?_) (HS.out _ hX21).1 ?_ ?_
    rotate_left
    ·intro w hSw
     obtain⟨s1,s2,s3,s4⟩:=hSw;go_simp
     with_reducible rfl
    try simp only[gQ]
    refine gT 20 kr rfl (fun K hK=>?_);go_simp;refine(HA.out _ _ hX21 hb21 hR21).mono ?_;exact k54
   ·have f23a:=(HS.out _ hX20).2.1
    have f23b:=(HS.out _ hX20).2.2;go_simp;refine hK.out _ _ (HS.out _ hX20).1 (fun _=>?_);clear hK K
    try simp only[gQ]
    refine jQ 18 (some 38) (v:=?_) (HS.out _ hX20).1 ?_ ?_
    rotate_left
    ·intro w hSw
     obtain⟨s1,s2,s3,s4⟩:=hSw;go_simp
     with_reducible rfl
    try simp only[gQ]
    refine gT 9 kr rfl (fun K hK=>?_);obtain⟨hX24,hb24,hR24⟩:=HNW.out _ hX20;go_simp;refine hK.out _ _ (HS.out _ hX24).1 (fun _=>?_);clear hK K
    try simp only[gQ]
    refine jQ 19 (some 39) (v:=?_) (HS.out _ hX24).1 ?_ ?_
    rotate_left
    ·intro w hSw
     obtain⟨s1,s2,s3,s4⟩:=hSw;go_simp
     with_reducible rfl
    try simp only[gQ]
    refine gT 20 kr rfl (fun K hK=>?_);go_simp;refine(HA.out _ _ hX24 hb24 hR24).mono ?_;exact k54
  ·obtain⟨hX25,hb25,hR25⟩:=HNW.out _ hX0
   go_simp;refine hK.out _ _ (HS.out _ hX25).1 (fun _=>?_);clear hK K
   try simp only[gQ]
   refine wpAnyH_ready (rs:=[7,17]) kr (by simp) (AllReadyH.cons rfl (fun K hK=>?_) (AllReadyH.cons rfl (fun K hK=>?_) AllReadyH.nil))
   ·go_simp
    refine(HT.out _ hX25).mono ?_;rintro e Y26 ⟨rfl,hY26⟩;have hX26:Below w3.heap.size w3 Y26:=(hX25).trans (hY26.mono (hX25).size);have hR26:=HKR.out _ _ _ hY26 hR25;refine hK.out _ _ (HS.out _ hX26).1 (fun _=>?_);clear hK K
    try simp only[gQ]
    refine gT 17 kr rfl (fun K hK=>?_);have f27a:=(HS.out _ hX26).2.1;have f27b:=(HS.out _ hX26).2.2;go_simp;refine hK.out _ _ (HS.out _ hX26).1 (fun _=>?_);clear hK K
    try simp only[gQ]
    refine jQ 18 (some 38) (v:=?_) (HS.out _ hX26).1 ?_ ?_
    rotate_left
    ·intro w hSw
     obtain⟨s1,s2,s3,s4⟩:=hSw;go_simp
     with_reducible rfl
    try simp only[gQ]
    refine jQ 19 (some 39) (v:=?_) (HS.out _ hX26).1 ?_ ?_
    rotate_left
    ·intro w hSw
     obtain⟨s1,s2,s3,s4⟩:=hSw;go_simp
     with_reducible rfl
    try simp only[gQ]
    refine gT 20 kr rfl (fun K hK=>?_);go_simp;refine(HA.out _ _ hX26 hb25 hR26).mono ?_;exact k54
   ·have f28a:=(HS.out _ hX25).2.1
    have f28b:=(HS.out _ hX25).2.2;go_simp;refine hK.out _ _ (HS.out _ hX25).1 (fun _=>?_);clear hK K
    try simp only[gQ]
    refine jQ 18 (some 38) (v:=?_) (HS.out _ hX25).1 ?_ ?_
    rotate_left
    ·intro w hSw
     obtain⟨s1,s2,s3,s4⟩:=hSw;go_simp
     with_reducible rfl
    try simp only[gQ]
    refine gT 7 kr rfl (fun K hK=>?_);go_simp;refine(HT.out _ hX25).mono ?_;rintro e Y29 ⟨rfl,hY29⟩;have hX29:Below w3.heap.size w3 Y29:=(hX25).trans (hY29.mono (hX25).size);have hR29:=HKR.out _ _ _ hY29 hR25;refine hK.out _ _ (HS.out _ hX29).1 (fun _=>?_);clear hK K
    try simp only[gQ]
    refine jQ 19 (some 39) (v:=?_) (HS.out _ hX29).1 ?_ ?_
    rotate_left
    ·intro w hSw
     obtain⟨s1,s2,s3,s4⟩:=hSw;go_simp
     with_reducible rfl
    try simp only[gQ]
    refine gT 20 kr rfl (fun K hK=>?_);go_simp;refine(HA.out _ _ hX29 hb25 hR29).mono ?_;exact k54
  ·have f30a:=(HS.out _ hX0).2.1
   have f30b:=(HS.out _ hX0).2.2;go_simp;refine hK.out _ _ (HS.out _ hX0).1 (fun _=>?_);clear hK K
   try simp only[gQ]
   refine jQ 18 (some 38) (v:=?_) (HS.out _ hX0).1 ?_ ?_
   rotate_left
   ·intro w hSw
    obtain⟨s1,s2,s3,s4⟩:=hSw;go_simp
    with_reducible rfl
   try simp only[gQ]
   refine wpAnyH_ready (rs:=[7,9]) kr (by simp) (AllReadyH.cons rfl (fun K hK=>?_) (AllReadyH.cons rfl (fun K hK=>?_) AllReadyH.nil))
   ·go_simp
    refine(HT.out _ hX0).mono ?_;rintro e Y31 ⟨rfl,hY31⟩;have hX31:Below w3.heap.size w3 Y31:=(hX0).trans (hY31.mono (hX0).size);refine hK.out _ _ (HS.out _ hX31).1 (fun _=>?_);clear hK K
    try simp only[gQ]
    refine gT 9 kr rfl (fun K hK=>?_);obtain⟨hX32,hb32,hR32⟩:=HNW.out _ hX31;go_simp;refine hK.out _ _ (HS.out _ hX32).1 (fun _=>?_);clear hK K
    try simp only[gQ]
    refine jQ 19 (some 39) (v:=?_) (HS.out _ hX32).1 ?_ ?_
    rotate_left
    ·intro w hSw
     obtain⟨s1,s2,s3,s4⟩:=hSw;go_simp
     with_reducible rfl
    try simp only[gQ]
    refine gT 20 kr rfl (fun K hK=>?_);go_simp;refine(HA.out _ _ hX32 hb32 hR32).mono ?_;exact k54
   ·obtain⟨hX33,hb33,hR33⟩:=HNW.out _ hX0
    go_simp;refine hK.out _ _ (HS.out _ hX33).1 (fun _=>?_);clear hK K
    try simp only[gQ]
    refine gT 7 kr rfl (fun K hK=>?_);go_simp;refine(HT.out _ hX33).mono ?_;rintro e Y34 ⟨rfl,hY34⟩;have hX34:Below w3.heap.size w3 Y34:=(hX33).trans (hY34.mono (hX33).size);have hR34:=HKR.out _ _ _ hY34 hR33;refine hK.out _ _ (HS.out _ hX34).1 (fun _=>?_);clear hK K
    try simp only[gQ]
    refine jQ 19 (some 39) (v:=?_) (HS.out _ hX34).1 ?_ ?_
    rotate_left
    ·intro w hSw
     obtain⟨s1,s2,s3,s4⟩:=hSw;go_simp
     with_reducible rfl
    try simp only[gQ]
    refine gT 20 kr rfl (fun K hK=>?_);go_simp;refine(HA.out _ _ hX34 hb33 hR34).mono ?_;exact k54
end Go.Proofs.YtjkebndkeamijaaGreatDoor
namespace Go.Proofs.YtjkebndkeamijaaGreatDoor
open Go.RowKit Go.Shelf
attribute [local go_sem] Oper.semAt_some
def oM (N:Nat):List (Fin N):=(List.finRange N).reverse
theorem uJ (N:Nat):(oM N).length=N:=by unfold oM;simp
theorem gPt {N k:Nat}(h:k<N):(oM N).take (k+1)=(oM N).take k++[⟨N - 1 - k,oo⟩]:=by
 rw[List.take_succ_eq_append_getElem (by rw[uJ];exact h)]
 congr 2
 unfold oM
 rw[List.getElem_reverse]
 simp
def gUc (W0:World)(b o:Nat){N:Nat}(i:Fin N):Array Value:=#[.int .i64 (i.val:Int),.agg #[(W0.cell? ⟨b,o+i.val * 3,none⟩).getD undef,(W0.cell? ⟨b,o+i.val * 3+1,none⟩).getD undef,(W0.cell? ⟨b,o+i.val * 3+2,none⟩).getD undef]]
theorem hDf (F:Fence)(n:Nat)(h23:F.fn 148)(hro:F.round=none)(a:Option Addr)(l c:Nat)(w:World) :
  CallsIn F n Tryz.prog 148 #[.slice a l c] w fun e w' => e=.returned (.func (.func 164) #[] #[.pointer (some ⟨w.heap.size,0,none⟩)])/\w' = w.alloc (.cells #[.slice a l c] 67):=by
 refine callsIn_of_wp Tryz.func148 rfl h23 ?_ hro
 simp only[Tryz.ntmps148,List.size_toArray,List.length_cons,List.length_nil,Nat.reduceAdd,Nat.reduceSub,Array.replicate_succ,Array.replicate_zero,List.push_toArray,List.append_toArray,List.nil_append,List.cons_append]
 gi_wp2
 go_ret
 exact⟨rfl,rfl⟩
theorem gYv (F:Fence)(n:Nat)(h30:F.fn 164)(hro:F.round=none)(hn:1<=n)(W0:World)(l m:Nat)(b o len cap:Nat)(hlen:len<=9223372036854775807)(hbl:b<W0.heap.size)
  (hcell:∀i,i<len->∃k s a' l' c', W0.cell? ⟨b,o+i * 3,none⟩=some (.int .i64 k)/\W0.cell? ⟨b,o+i * 3+1,none⟩=some (.string s)/\W0.cell? ⟨b,o+i * 3+2,none⟩=some (.slice a' l' c'))
  (J Jx:List (Fin len)->World->Prop)
  (hY:∀pre i W,J pre W->pre.length<len->YieldAt F (n - 1) Tryz.prog l (gUc W0 b o i) W fun e W' =>
   (e=.returned (.bool true)/\J (pre++[i]) W' /\ (Below W0.heap.size W W' /\ W'.heap[m]? = W.heap[m]?))\/(e=.returned (.bool false)/\Jx (pre++[i]) W'))
  (W:World) (hW:Below W0.heap.size W0 W) (hm:W.heap[m]? = some (.cells #[.slice (some ⟨b,o,none⟩) len cap] 67 (0,0))) (h0:J [] W) :
  CallsIn F n Tryz.prog 164 #[.func (.yield l) #[] #[],.pointer (some ⟨m,0,none⟩)] W fun e W' => (∃v,e=.returned v) ∧
   ((∃ys,ys=oM len/\J ys W')\/(∃pre,pre <+: oM len/\Jx pre W')):=by
 refine callsIn_of_wp Tryz.func164 rfl h30 ?_ hro
 simp only[Tryz.ntmps164,List.size_toArray,List.length_cons,List.length_nil,Nat.reduceAdd,Nat.reduceSub,Array.replicate_succ,Array.replicate_zero,List.push_toArray,List.append_toArray,List.nil_append,List.cons_append]
 have hm0:W.cell? ⟨m,0,none⟩=some (.slice (some ⟨b,o,none⟩) len cap):=cell_of_row W m 0 _ _ _ hm
 gi_wp2
 gi_loopw [3] (fun q wr=>∃k:Nat,k<=len/\q=.int .i64 ((len:Int) - 1 - (k:Int))/\J ((oM len).take k) wr/\Below W0.heap.size W0 wr/\wr.heap[m]? = some (.cells #[.slice (some ⟨b,o,none⟩) len cap] 67 (0,0)))
  (fun q _=>(intOf q+1).toNat)
 case atStart=>exact⟨0,oo,by go_num,h0,hW,hm⟩
 case round=>
  obtain⟨k,hk,rfl,hJs,hB,hmr⟩:=hrel;have hm1:wr.cell? ⟨m,0,none⟩=some (.slice (some ⟨b,o,none⟩) len cap):=cell_of_row wr m 0 _ _ _ hmr
  by_cases hlt:k<len
  ·have hi:len - 1 - k<len:=by omega
   obtain⟨kx,sx,ax,lx,cx,e0,e1,e2⟩:=hcell (len - 1 - k) hi;have hc0:=(hB.cell (p:=⟨b,o+(len - 1 - k) * 3,none⟩) hbl).trans e0;have hc1:=(hB.cell (p:=⟨b,o+(len - 1 - k) * 3+1,none⟩) hbl).trans e1;have hc2:=(hB.cell (p:=⟨b,o+(len - 1 - k) * 3+2,none⟩) hbl).trans e2;obtain⟨fn,tmps,assign,body,hy,hR⟩:=hY _ ⟨len - 1 - k,hi⟩ wr hJs (by rw[List.length_take,uJ];omega);unfold gUc at hy;simp only[e0,e1,e2,Option.getD_some] at hy;obtain⟨i,hi'⟩:∃i,i=len - 1 - k:=⟨_,rfl⟩;(have hpk:(len:Int) - 1 - (k:Int)=(i:Int):=by omega);rw[<-hi'] at hc0 hc1 hc2;simp only[<-hi'] at hy;rw[hpk];(have hii:(i:Int)<(len:Int):=by omega);(have hi0:(0:Int)<=(i:Int):=by omega);have HT:Hid ((oM len).take (k+1)=(oM len).take k++[⟨len - 1 - k,hi⟩]):=gPt hlt;have HI:Hid (i=len - 1 - k):=hi';clear hcell hY e0 e1 e2 hi' hpk
   gi_wp2
   refine hR.mono ?_;rintro e W3 (⟨rfl,hJ3,hk3,hm3⟩ | ⟨rfl,hJx3⟩)
   ·gi_wp2
    go_roundw
    case rel=>exact⟨k+1,oo,by have:=HI.out;go_num,by rw[HT.out];exact hJ3,hB.trans hk3,hm3.trans hmr⟩
    case measure=>have:=HI.out;simp[intOf]<;>omega
   ·gi_wp2
    refine bodyPost_ret (results_none rfl _ _ _) rfl ?_;exact⟨⟨_,rfl⟩,.inr ⟨_,by rw[<-HT.out];exact List.take_prefix _ _,hJx3⟩⟩
  ·obtain rfl:k=len:=by omega
   (have hpk:(k:Int) - 1 - (k:Int) = -1:=by omega);rw[hpk];clear hY hcell
   gi_wp2
   go_end0
   rw[zzm (by rw[uJ];exact zzb _)] at hJs;exact⟨⟨_,rfl⟩,Or.inl ⟨_,rfl,hJs⟩⟩
end Go.Proofs.YtjkebndkeamijaaGreatDoor
