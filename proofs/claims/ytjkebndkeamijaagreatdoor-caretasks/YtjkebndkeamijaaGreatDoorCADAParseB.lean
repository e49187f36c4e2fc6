/-
  PROVED HERE: the calls of the reader of expressions: what each returns and leaves.
-/
import Derived.Test.YtjkebndkeamijaaGreatDoorCA3
import Derived.Test.YtjkebndkeamijaaGreatDoorCADAParseA
import Derived.Lib.Bytealg
import Derived.Shelf.Pu.Clone
set_option maxRecDepth 100000
set_option maxHeartbeats 4000000
namespace Go.Proofs.YtjkebndkeamijaaGreatDoor
open Go.RowKit Go.Shelf
def kS (c:Int):Int:=if c=42 then 0 else if c=43 then 1 else if c=63 then 2 else -1
theorem gTe (c:Int)(h0:0<=c)(h1:c<256):Lib.indexByte [42,43,63] c.toNat.toUInt8=kS c:=by
 obtain⟨n,rfl⟩:=Int.eq_ofNat_of_zero_le h0
 have hn:n<256:=by omega
 have key:∀n:Fin 256,Lib.indexByte [42,43,63] n.val.toUInt8=kS (n.val:Int):=by decide +kernel
 exact key ⟨n,hn⟩
theorem gEm (c:Int)(h0:0<=c)(h1:c<256)(w:World):Calls Tryz.prog 192 #[.string ⟨#[42,43,63]⟩,.int .u8 c] w fun e w' => e=.returned (.int .i64 (kS c))/\w' = w:=by
 have h72:=@run_callFunc_extern Tryz.prog 197 _ Extern.BytealgIndexByte.indexByte Tryz.func197 kr kr kr kr
 have hr:∀W:World,(Extern.BytealgIndexByte.indexByte #[.string ⟨#[42,43,63]⟩,.int .u8 c]).run Tryz.prog W=.ok (.int .i64 (kS c)) W:=fun W=>by
  rw[Lib.run_indexByteString,<-gTe c h0 h1]
 generalize kS c=R at *
 go_enter Tryz.func192,Tryz.ntmps192
 go_wp2
 go_ret
 exact⟨rfl,rfl⟩
def hHb:Go.Shelf.Ren:=⟨fun | 25=>198 | n=>n,fun | 9=>9 | 0=>0 | 37=>258 | 47=>259 | 3=>3 | 4=>4 | 5=>5 | n=>n,fun | n=>n⟩
theorem hGw:Go.Proofs.LaysPu.n25 Tryz.prog hHb:={
 mixed:=by kernel_rfl
 f25:=Tryz.func198.trans (congrArg some kr)
 t0:=Tryz.underlying0
 a0:=Tryz.isAgg0
 z0:=Tryz.sizeOf0
 v0:=Tryz.zeroValue0
 i0:=by kernel_rfl
 t3:=Tryz.underlying3
 a3:=Tryz.isAgg3
 z3:=Tryz.sizeOf3
 v3:=Tryz.zeroValue3
 i3:=by kernel_rfl
 t4:=Tryz.underlying4
 a4:=Tryz.isAgg4
 z4:=Tryz.sizeOf4
 v4:=Tryz.zeroValue4
 i4:=by kernel_rfl
 t5:=Tryz.underlying5
 a5:=Tryz.isAgg5
 z5:=Tryz.sizeOf5
 v5:=Tryz.zeroValue5
 i5:=by kernel_rfl
 t9:=Tryz.underlying9
 a9:=Tryz.isAgg9
 z9:=Tryz.sizeOf9
 v9:=Tryz.zeroValue9
 i9:=by kernel_rfl
 t37:=Tryz.underlying258
 a37:=Tryz.isAgg258
 z37:=Tryz.sizeOf258
 v37:=Tryz.zeroValue258
 i37:=by kernel_rfl
 t47:=Tryz.underlying259
 a47:=Tryz.isAgg259
 z47:=Tryz.sizeOf259
 v47:=Tryz.zeroValue259
 i47:=by kernel_rfl }
theorem gKk (s:ByteArray)(w:World)(h:s.size<=281474976710656):Calls Tryz.prog 198 #[.string s] w fun e w' => e=.returned (.string s)/\Below w.heap.size w w' := AnyPu.stringslite_Clone hGw s w h
theorem gPw (s:ByteArray)(w:World)(h:s.size<=281474976710656):Calls Tryz.prog 196 #[.string s] w fun e w' => e=.returned (.string s)/\Below w.heap.size w w' := by
 have H:=gKk s w h
 go_enter Tryz.func196,Tryz.ntmps196
 go_wp2_with fail
 refine H.mono ?_
 rintro e W ⟨rfl,hW⟩
 go_wp2
 go_ret
 exact⟨rfl,hW⟩
theorem gXl (s:ByteArray)(i:Nat)(_h:i<=s.size):bts (s.extract i s.size)=left s i:=by
 unfold left bts
 rw[ByteArray.data_extract,Array.toList_extract,List.extract_eq_take_drop]
 rw[zzm]
 rw[List.length_drop,Array.length_toList]
 exact zzb _
theorem pH {p:UInt8->Bool}:∀l:List UInt8,l.take (l.takeWhile p).length=l.takeWhile p/\l.drop (l.takeWhile p).length=l.dropWhile p:=by
 intro l
 induction l with
 | nil=>exact⟨rfl,rfl⟩
 | cons c r ih=>
  rw[List.takeWhile_cons,List.dropWhile_cons];cases p c with
  | true=>simp[ih]
  | false=>simp
theorem gJa (s:ByteArray)(i n:Nat):left s (i+n)=(left s i).drop n:=by
 unfold left
 rw[List.drop_drop]
theorem gDx (s:ByteArray)(i n:Nat):bts (s.extract i (i+n))=(left s i).take n:=by
 unfold left bts
 rw[ByteArray.data_extract,Array.toList_extract,List.extract_eq_take_drop]
 rw[show i+n - i=n from by omega]
def Pl (s:ByteArray)(j:Nat):Prop:=j<=s.size/\jX (left s j)=left s j
theorem sS:∀l:List UInt8,jX (jX l)=jX l:=by
 intro l
 induction l with
 | nil=>rfl
 | cons c r ih=>
  rw[jX]
  split
  ·exact ih
  ·rename_i h
   rw[jX,if_neg h]
theorem Pl.skip {s:ByteArray}{i:Nat}(h:i<=s.size):Pl s (skip s i)/\i<=Go.Proofs.YtjkebndkeamijaaGreatDoor.skip s i/\left s (Go.Proofs.YtjkebndkeamijaaGreatDoor.skip s i)=jX (left s i):=by
 have h1:=gUd h
 have h2:=gXk s (s.size - i) i oo
 exact⟨⟨h1.2,by rw[h2,sS]⟩,h1.1,h2⟩
theorem pF {s:ByteArray}{i:Nat}(h:i<=s.size):(left s i=[]/\pk s i=0/\i=s.size)\/∃c q,left s i=c::q/\pk s i=(c.toNat:Int)/\left s (i+1)=q/\i<s.size:=by
 rcases Nat.lt_or_ge i s.size with h1 | h1
 ·exact .inr ⟨_,_,rA h1,gOa h1,rfl,h1⟩
 ·obtain rfl:i=s.size:=by omega
  exact .inl ⟨oI s,gGb s,rfl⟩
theorem gSk (g:Nat)(s:ByteArray)(i:Nat)(w:World)(hP:RAt w g s i)(hi:i<=s.size)(hs:s.size<=200) :
  Calls Tryz.prog 193 #[.pointer (some ⟨g,0,none⟩)] w fun e w' => ∃nm,e=.returned (.agg #[.int .i64 1,.string nm,.slice none 0 0])/\bts nm=(left s i).takeWhile gH/\gX g w w' /\ RAt w' g s (skip s (i+((left s i).takeWhile gH).length))/\i+((left s i).takeWhile gH).length<=s.size:=by
 have hll:=iL s i
 have hwl:((left s i).takeWhile gH).length<=(left s i).length:=by
  have:=congrArg List.length (pH (p:=gH) (left s i)).1
  rw[List.length_take] at this;omega
 have hlead:gCp (s.extract i s.size)=((left s i).takeWhile gH).length:=by unfold gCp;rw[gXl s i hi]
 have hex:=gDx s i ((left s i).takeWhile gH).length
 rw[(pH (p:=gH) (left s i)).1] at hex
 have HN:Hid (∀W,Calls Tryz.prog 178 #[.string (s.extract i s.size)] W fun e w' => e=.returned (.int .i64 (((left s i).takeWhile gH).length:Int))/\w' = W):=fun W=>by
  have:=zB (s.extract i s.size) W (by rw[ByteArray.size_extract];omega)
  rwa [hlead] at this
 have HW:Hid (bts (s.extract i (i+((left s i).takeWhile gH).length))=(left s i).takeWhile gH):=hex
 generalize hL:((left s i).takeWhile gH).length=n at *
 have hn:i+n<=s.size:=by omega
 have HC:Hid (∀W,Calls Tryz.prog 196 #[.string (s.extract i (i+n))] W fun e w' => e=.returned (.string (s.extract i (i+n)))/\Below W.heap.size W w'):=fun W=>gPw _ W (by rw[ByteArray.size_extract];omega)
 have HP:Hid (∀W,RAt W g s i->Calls Tryz.prog 171 #[.pointer (some ⟨g,0,none⟩),.int .i64 (n:Int)] W fun r w' => r=.returned (.tuple #[])/\RAt w' g s (skip s (i+n))/\jW g W w'):=fun W h=>qX g s i n W h hn oo
 have hlt:=hP.lt
 obtain⟨c0,c1,f1⟩:=hP.cells
 have hmx:Tryz.prog.follows .mixedOrders=true:=by kernel_rfl
 obtain⟨w1,hw1⟩:∃w1,w1=w.alloc (.cells #[.int .i64 0,.string ⟨#[]⟩,.slice none 0 0] 69):=⟨_,rfl⟩
 have hB1:Below w.heap.size w w1:=by rw[hw1];exact(zzd _ w).alloc (zzb _) _
 have hs1:w1.heap.size=w.heap.size+1:=by rw[hw1];simp
 have hz1:w1.heap[w.heap.size]? = some (.cells #[.int .i64 0,.string ⟨#[]⟩,.slice none 0 0] 69 (0,0)):=by rw[hw1];exact heap_alloc_new w _
 have g0:∀W:World,Below w1.heap.size w1 W->W.cell? ⟨g,0,none⟩=some (.string s):=fun W hW=>(hW.cell (p:=⟨g,0,none⟩) (by show g<_;omega)).trans ((hB1.cell (p:=⟨g,0,none⟩) hlt).trans c0)
 have g1:∀W:World,Below w1.heap.size w1 W->W.cell? ⟨g,1,none⟩=some (.int .i64 (i:Int)):=fun W hW=>(hW.cell (p:=⟨g,1,none⟩) (by show g<_;omega)).trans ((hB1.cell (p:=⟨g,1,none⟩) hlt).trans c1)
 have HR1:Hid (∀W:World,Below w1.heap.size w1 W->RAt W g s i):=fun W hW=>((hP.below hB1).below hW)
 have HB:Hid (Below w.heap.size w w1/\w1.heap.size=w.heap.size+1/\w1.heap[w.heap.size]? = some (.cells #[.int .i64 0,.string ⟨#[]⟩,.slice none 0 0] 69 (0,0))/\g<w.heap.size):=⟨hB1,hs1,hz1,hlt⟩
 have hi1:(i:Int)<=(s.size:Int):=by omega
 obtain⟨e,he⟩:∃e,e=i+n:=⟨_,rfl⟩
 rw[<-he] at HW HC HP hn ⊢
 have hi2:(e:Int)<=(s.size:Int):=by omega
 have hi3:(i:Int)<=(e:Int):=by omega
 have hwr:IntKind.i64.wrap ((i:Int)+(n:Int))=(e:Int):=by rw[IntKind.wrap_i64];omega
 have HL:Hid (e<=s.size):=hn
 clear he hn
 clear hP hB1 hs1 hz1 c0 c1 f1 hlt hll hlead hwl
 go_enter Tryz.func193,Tryz.ntmps193
 go_wp2_with fail
 rw[<-hw1]
 clear hw1
 refine wp_region_held_drew (S:=fun w' => Below w1.heap.size w1 w') hmx (zzd _ _).drew (fun hS=>?_)
 refine gA 0 (some 5) hS ?_
 refine gA 1 (some 6) hS ?_
 refine gA 2 (some 7) hS ?_
 refine gA 3 (some 8) hS ?_
 refine gA 4 (some 9) hS ?_
 refine gA 5 (some 10) hS ?_
 refine gA 6 (some 11) hS ?_
 refine gA 7 (some 12) hS ?_
 refine gA 8 (some 13) hS ?_
 refine gT 9 kr rfl (fun K hK=>?_)
 go_simp
 refine(HN.out _).mono ?_
 rintro e3 W3 ⟨rfl,hW3⟩
 rw[hW3]
 refine hK.out _ _ hS (fun _=>?_)
 clear hK K
 try simp only[gQ]
 refine gA 10 (some 3) hS ?_
 refine wpAnyH_done kr ?_ _
 go_wp2_with fail
 refine wp_region_held_drew (S:=fun w' => Below w1.heap.size w1 w') hmx hS.drew (fun hS=>?_)
 refine gA 0 (some 15) hS ?_
 refine gA 1 (some 16) hS ?_
 refine gA 2 (some 17) hS ?_
 refine gA 3 (some 18) hS ?_
 refine gA 4 (some 19) hS ?_
 refine gA 5 (some 20) hS ?_
 refine gA 6 (some 21) hS ?_
 refine gA 7 (some 22) hS ?_
 refine gA 8 (some 23) hS ?_
 refine gA 9 (some 24) hS ?_
 refine gA 10 (some 25) hS ?_
 refine gA 11 (some 26) hS ?_
 refine gA 12 (some 27) hS ?_
 refine gA 13 (some 28) hS ?_
 refine gA 14 (some 29) hS ?_
 refine gT 15 kr rfl (fun K hK=>?_)
 go_simp
 refine(HC.out _).mono ?_
 rintro e3 W3 ⟨rfl,hW3⟩
 have hS3:Below w1.heap.size w1 W3:=hS.trans (hW3.mono hS.size)
 refine hK.out _ _ hS3 (fun _=>?_)
 clear hK K
 try simp only[gQ]
 refine gA 16 (some 4) hS3 ?_
 refine wpAnyH_done kr ?_ _
 go_wp2_with fail
 refine(HP.out _ (HR1.out _ hS3)).mono ?_
 rintro e4 W4 ⟨rfl,hR4,hO4⟩
 obtain⟨hB1,hs1,hz1,hlt⟩:=HB.out
 have hz4:W4.heap[w.heap.size]? = some (.cells #[.int .i64 0,.string ⟨#[]⟩,.slice none 0 0] 69 (0,0)):=(hO4.block _ oo).trans ((hS3.block _ oo).trans hz1)
 have hK4:gX g w W4:=(gX.of_below (hB1.trans (hS3.mono oo))).trans hO4.kept
 have HZ:Hid (W4.heap[w.heap.size]? = some (.cells #[.int .i64 0,.string ⟨#[]⟩,.slice none 0 0] 69 (0,0))):=hz4
 have HK:Hid (∀cs,gX g w (W4.setRow w.heap.size cs)/\RAt (W4.setRow w.heap.size cs) g s (skip s e)):=fun cs=>⟨hK4.setRow _ _ (zzb _),hR4.setRow _ _ oo⟩
 clear hB1 hs1 hz1 hz4 hK4 hR4 hO4 hS3 hS hW3 g0 g1 HR1 HN HC HP HB
 go_wp2_with (refine wpList_store_row rfl 69 _ _ rfl w.heap.size #[.int .i64 1,.string (s.extract i e),.slice none 0 0] rfl rfl 69 _ HZ.out gE rfl (jF _ _ _ _ _) ?_)
 refine bodyPost_ret (results_cell_row rfl _ _ w.heap.size 69 #[.int .i64 1,.string (s.extract i e),.slice none 0 0] (0,0) _ rfl (setRow_heap _ _ _ _ _ _ HZ.out) Tryz.underlying69 rfl gE) rfl ?_
 exact⟨_,rfl,HW.out,(HK.out _).1,(HK.out _).2,HL.out⟩
end Go.Proofs.YtjkebndkeamijaaGreatDoor
/- Pure5: the plain parser in the program's steps. -/
namespace Go.Proofs.YtjkebndkeamijaaGreatDoor
open Go.RowKit
def lZ (alt:List UInt8->Option (DataW Unit)×List UInt8)(r:List UInt8):Option (DataW Unit)×List UInt8 :=
 match jX r with
 | []=>(none,[])
 | c::q=>
  if gH c=true then (some (node 1 ⟨((c::q).takeWhile gH).toArray⟩ []),jX ((c::q).dropWhile gH))
  else if c=40 then
   match alt q with
   | (none,q')=>(none,q')
   | (some _,[])=>(none,[])
   | (some t,d::q')=>if d=41 then (some t,jX q') else (none,d::q')
  else (none,c::q)
theorem sT (t:DataW Unit):∀r:List UInt8,iY t (jX r)=iY t r:=by
 intro r
 induction r with
 | nil=>rfl
 | cons c r ih=>
  rw[jX]
  split
  ·rename_i h
   rw[ih,iY,if_pos h]
  ·rfl
theorem gIu (alt:List UInt8->Option (DataW Unit)×List UInt8)(r:List UInt8):iB alt r=match lZ alt r with
  | (none,q)=>(none,q)
  | (some t,q)=>(some (iY t q).1,(iY t q).2):=by
 unfold iB lZ
 cases jX r with
 | nil=>rfl
 | cons c q=>
  simp only
  by_cases h1:gH c=true
  ·rw[if_pos h1,if_pos h1]
   simp only[sT]
  ·rw[if_neg h1,if_neg h1]
   by_cases h2:c=40
   ·rw[if_pos h2,if_pos h2]
    match alt q with
    | (none,q')=>rfl
    | (some _,[])=>rfl
    | (some t,d::q')=>
     simp only
     by_cases h3:d=41
     ·rw[if_pos h3,if_pos h3]
      simp only[sT]
     ·rw[if_neg h3,if_neg h3]
   ·rw[if_neg h2,if_neg h2]
theorem yM (alt:List UInt8->Option (DataW Unit)×List UInt8)(r:List UInt8):iB alt (jX r)=iB alt r:=by
 unfold iB
 rw[sS]
theorem gZr (alt:List UInt8->Option (DataW Unit)×List UInt8)(r:List UInt8):lD (iB alt) (jX r)=lD (iB alt) r:=by
 unfold lD
 rw[yM]
def Bad (l:List UInt8):Prop:=∃c q,l=c::q/\c≠124/\c≠41
def FR (s:ByteArray)(R:Option (DataW Unit)×List UInt8)(j:Nat):Prop:=R=(none,left s j)/\Pl s j
def DR (s:ByteArray)(R:Option (DataW Unit)×List UInt8)(t:DataW Unit)(j:Nat):Prop:=R=(some t,left s j)/\Pl s j
def DB (s:ByteArray)(R:Option (DataW Unit)×List UInt8)(t:DataW Unit)(j:Nat):Prop:=(R=(some t,left s j)\/(R=(none,left s j)/\Bad (left s j)))/\Pl s j
def gXg (k:Int)(x:Option (List (DataW Unit))×List UInt8):Option (DataW Unit)×List UInt8:=(x.1.map (jV k),x.2)
theorem qF {c:UInt8}{n:Nat}(hn:n<256)(h:(c.toNat:Int)=n):c=UInt8.ofNat n:=by
 apply UInt8.toNat_inj.1
 rw[UInt8.toNat_ofNat_of_lt' hn]
 omega
/-! ### parts -/
def hFq (s:ByteArray)(P:List UInt8->Option (DataW Unit)×List UInt8)(R:Option (DataW Unit)×List UInt8)(_i0 n:Nat)(f:Nat)(l:List (DataW Unit))(i:Nat):Prop :=
 Pl s i/\s.size - i<n+1/\s.size - i<=f/\((l=[]/\lD P (left s i)=R)\/(∃c q F,left s i=c::q/\c≠124/\c≠41/\q.length<F/\gXg 2 (jY P (F+1) l (left s i))=R))
def hFo (s:ByteArray)(P:List UInt8->Option (DataW Unit)×List UInt8)(R:Option (DataW Unit)×List UInt8)(n:Nat)(f:Nat)(l:List (DataW Unit))(j:Nat):Prop :=
 Pl s j/\s.size - j<n+1/\s.size - j<f+1/\(left s j≠[]->s.size - j<f)/\∃F,(left s j).length<F/\gXg 2 (jY P F l (left s j))=R
def gVe (s:ByteArray)(R:Option (DataW Unit)×List UInt8)(k:Int)(l:List (DataW Unit))(j:Nat):Prop:=DB s R (jV k l) j
theorem hCj {s:ByteArray}{P:List UInt8->Option (DataW Unit)×List UInt8}{R:Option (DataW Unit)×List UInt8}{i0 n f:Nat}{l:List (DataW Unit)}{i j:Nat}(h:hFq s P R i0 n f l i)(hf:FR s (P (left s i)) j):FR s R j:=by
 obtain⟨-,-,-,⟨_,h⟩ | ⟨c,q,F,e,h1,h2,h3,h⟩⟩:=h
 ·refine⟨?_,hf.2⟩
  rw[<-h];unfold lD;rw[hf.1]
 ·refine⟨?_,hf.2⟩
  rw[<-h];rw[e] at hf ⊢;rw[jY,if_neg (by rintro (h | h);exact h1 h;exact h2 h),hf.1]
  rfl
theorem hCi {s:ByteArray}{P:List UInt8->Option (DataW Unit)×List UInt8}{R:Option (DataW Unit)×List UInt8}{i0 n f:Nat}{l:List (DataW Unit)}{i j:Nat}{t:DataW Unit}(h:hFq s P R i0 n f l i)(hf:DR s (P (left s i)) t j)(hij:i<j):hFo s P R n f (l++[t]) j:=by
 obtain⟨h0,hn,hff,h⟩:=h
 have hj:=hf.2
 refine⟨hj,oo,oo,fun hne=>?_,?_⟩
 ·have:=iL s j
  have:(left s j).length≠0:=fun e=>hne (List.length_eq_zero_iff.1 e)
  omega
 ·rcases h with ⟨rfl,h⟩ | ⟨c,q,F,e,h1,h2,h3,h⟩
  ·refine⟨(left s j).length+1,oo,?_⟩
   rw[<-h];unfold lD;rw[hf.1]
   rfl
  ·have hq:=iL s i
   rw[e,List.length_cons] at hq;have hq2:=iL s j;refine⟨F,oo,?_⟩;rw[<-h];rw[e] at hf ⊢;rw[jY,if_neg (by rintro (h | h);exact h1 h;exact h2 h),hf.1]
theorem hBi {s:ByteArray}{alt:List UInt8->Option (DataW Unit)×List UInt8}{R:Option (DataW Unit)×List UInt8}{i0 n f:Nat}{l:List (DataW Unit)}{j:Nat}(h:hFo s (iB alt) R n f l j)(hp:(pL (pk s j)||pk s j==40)=true):hFq s (iB alt) R i0 n (s.size - j) l j/\s.size - j<f:=by
 obtain⟨h0,hn,hff,hf2,F,hF,h⟩:=h
 rcases pF h0.1 with ⟨e,hk,_⟩ | ⟨c,q,e,hk,_,_⟩
 ·rw[hk] at hp
  cases hp
 ·refine⟨⟨h0,hn,zzb _,.inr ⟨c,q,F - 1,e,?_,?_,?_,?_⟩⟩,hf2 (by rw[e];simp)⟩
  ·rintro rfl
   rw[hk] at hp
   revert hp
   decide
  ·rintro rfl
   rw[hk] at hp
   revert hp
   decide
  ·rw[e,List.length_cons] at hF
   omega
  ·rw[show F - 1+1=F from by omega]
   exact h
theorem hBk {s:ByteArray}{alt:List UInt8->Option (DataW Unit)×List UInt8}{R:Option (DataW Unit)×List UInt8}{n f:Nat}{l:List (DataW Unit)}{j:Nat}(h:hFo s (iB alt) R n f l j)(hp:(pL (pk s j)||pk s j==40)=false):gVe s R 2 l j:=by
 obtain⟨h0,hn,hff,hf2,F,hF,h⟩:=h
 refine⟨?_,h0⟩
 cases F with
 | zero=>omega
 | succ F=>
  rcases pF h0.1 with ⟨e,hk,_⟩ | ⟨c,q,e,hk,_,_⟩
  ·rw[e,jY] at h
   rw[e];exact .inl h.symm
  ·rw[e,jY] at h
   rw[e]
   by_cases hc:c=124\/c=41
   ·rw[if_pos hc] at h
    exact .inl h.symm
   ·rw[if_neg hc] at h
    have hl:gH c=false:=by
     rw[hk,oH] at hp;cases hl:gH c with
     | false=>rfl
     | true=>rw[hl] at hp;cases hp
    have h40:c≠40:=by
     rintro rfl;rw[hk] at hp
     revert hp
     decide
    have hsk:=h0.2;rw[e] at hsk
    have hpl:iB alt (c::q)=(none,c::q):=by
     unfold iB;rw[hsk];simp only[hl,Bool.false_eq_true,if_false,if_neg h40]
    rw[hpl] at h;exact .inr ⟨h.symm,c,q,rfl,fun e=>hc (.inl e),fun e=>hc (.inr e)⟩
/-! ### choices -/
def gUo (P:List UInt8->Option (DataW Unit)×List UInt8)(F:Nat)(l:List (DataW Unit))(r:List UInt8):Option (DataW Unit)×List UInt8 :=
 match P r with
 | (none,r')=>(none,r')
 | (some t,r')=>gXg 3 (kG P F (l++[t]) r')
def hFr (s:ByteArray)(P:List UInt8->Option (DataW Unit)×List UInt8)(R:Option (DataW Unit)×List UInt8)(n:Nat)(f:Nat)(l:List (DataW Unit))(i:Nat):Prop :=
 Pl s i/\s.size - i<n+1/\s.size - i<=f/\((l=[]/\rM P (left s i)=R)\/∃F,(left s i).length<=F/\gUo P F l (left s i)=R)
def hFp (s:ByteArray)(P:List UInt8->Option (DataW Unit)×List UInt8)(R:Option (DataW Unit)×List UInt8)(n:Nat)(f:Nat)(l:List (DataW Unit))(j:Nat):Prop :=
 Pl s j/\s.size - j<n+1/\s.size - j<f+1/\(left s j≠[]->s.size - j<f+1)/\((∃F,(left s j).length<F/\gXg 3 (kG P F l (left s j))=R)\/(R=(none,left s j)/\Bad (left s j)))
theorem gJh {s:ByteArray}{P:List UInt8->Option (DataW Unit)×List UInt8}{R:Option (DataW Unit)×List UInt8}{n f:Nat}{l:List (DataW Unit)}{i j:Nat}(h:hFr s P R n f l i)(hf:FR s (P (left s i)) j):FR s R j:=by
 obtain⟨-,-,-,⟨_,h⟩ | ⟨F,h3,h⟩⟩:=h
 ·refine⟨?_,hf.2⟩
  rw[<-h];unfold rM;rw[hf.1]
 ·refine⟨?_,hf.2⟩
  rw[<-h];unfold gUo;rw[hf.1]
theorem gXz {s:ByteArray}{P:List UInt8->Option (DataW Unit)×List UInt8}{R:Option (DataW Unit)×List UInt8}{n f:Nat}{l:List (DataW Unit)}{i j:Nat}{t:DataW Unit}(h:hFr s P R n f l i)(hf:DB s (P (left s i)) t j)(hij:i<j):hFp s P R n f (l++[t]) j:=by
 obtain⟨h0,hn,hff,h⟩:=h
 obtain⟨hf,hj⟩:=hf
 have h0s:=h0.1
 have hjs:=hj.1
 have hli:=iL s i
 have hlj:=iL s j
 refine⟨hj,oo,oo,fun _=>by omega,?_⟩
 rcases hf with hf | ⟨hf,hb⟩
 ·rcases h with ⟨rfl,h⟩ | ⟨F,h3,h⟩
  ·refine .inl ⟨(left s j).length+1,oo,?_⟩
   rw[<-h];unfold rM;rw[hf]
   rfl
  ·refine .inl ⟨F,oo,?_⟩
   rw[<-h];unfold gUo;rw[hf]
 ·exact .inr ⟨(gJh ⟨h0,hn,hff,h⟩ ⟨hf,hj⟩).1,hb⟩
theorem gXc {s:ByteArray}{alt:List UInt8->Option (DataW Unit)×List UInt8}{R:Option (DataW Unit)×List UInt8}{n f:Nat}{l:List (DataW Unit)}{j:Nat}(h:hFp s (lD (iB alt)) R n f l j)(hp:pk s j=124):hFr s (lD (iB alt)) R n (s.size - skip s (j+1)) l (skip s (j+1))/\s.size - skip s (j+1)<f/\j<=skip s (j+1):=by
 obtain⟨h0,hn,hff,hf2,h⟩:=h
 rcases pF h0.1 with ⟨e,hk,_⟩ | ⟨c,q,e,hk,hq,hlt⟩
 ·rw[hk] at hp
  cases hp
 ·obtain rfl:c=124:=qF (n:=124) (by decide) (by rw[<-hk,hp];rfl)
  obtain⟨p1,p2,p3⟩:=Pl.skip (s:=s) (i:=j+1) oo;have hli:=iL s (skip s (j+1));have hle:=p1.1;refine⟨⟨p1,oo,zzb _,?_⟩,oo,oo⟩;rcases h with ⟨F,hF,h⟩ | ⟨_,c', q', e', h1,h2⟩
  ·cases F with
   | zero=>omega
   | succ F=>
    rw[e,List.length_cons] at hF;(have hlq:q.length=s.size - (j+1):=by rw[<-hq];exact iL s (j+1));refine .inr ⟨F,oo,?_⟩;rw[<-h,e,kG,if_pos rfl,p3,hq];unfold gUo;rw[gZr]
    match lD (iB alt) q with
    | (none,r')=>rfl
    | (some t,r')=>rfl
  ·rw[e] at e'
   cases e';exact absurd rfl h1
theorem gXd {s:ByteArray}{P:List UInt8->Option (DataW Unit)×List UInt8}{R:Option (DataW Unit)×List UInt8}{n f:Nat}{l:List (DataW Unit)}{j:Nat}(h:hFp s P R n f l j)(hp:pk s j≠124):gVe s R 3 l j:=by
 obtain⟨h0,hn,hff,hf2,h⟩:=h
 refine⟨?_,h0⟩
 rcases h with ⟨F,hF,h⟩ | h
 ·cases F with
  | zero=>omega
  | succ F=>
   rcases pF h0.1 with ⟨e,hk,_⟩ | ⟨c,q,e,hk,_,_⟩
   ·rw[e,kG] at h
    rw[e];exact .inl h.symm
   ·rw[e,kG,if_neg (by rintro rfl;exact hp (by rw[hk];rfl))] at h
    rw[e];exact .inl h.symm
 ·exact .inr h
end Go.Proofs.YtjkebndkeamijaaGreatDoor
/- oR: expr.row at any two functions that read and ask: what it returns and leaves. -/
namespace Go.Proofs.YtjkebndkeamijaaGreatDoor
open Go.RowKit
def sF (g:Nat)(s:ByteArray)(lo i:Nat)(F:Nat->Prop)(D:DataW Unit->Nat->Prop)(e:Ending)(w' : World):Prop :=
 (∃j,RAt w' g s j/\F j/\e=.returned (.tuple #[zE,uL j 4])) ∨
 (∃j t m r,RAt w' g s j/\D t j/\lC t/\i<j/\(subs t).length+i<=j/\ExA (fun b=>lo<=b) w' m t (jI r)/\e=.returned (.tuple #[jI r,.nilIface]))
theorem ExA.node {A:Nat->Prop}{w:World}{m:Nat}{t:DataW Unit}{r:Raw}(h:ExA A w m t (jI r)):iE t=r.1/\(subs t).length=r.2.2.2.1:=by
 cases m with
 | zero=>exact h.elim
 | succ m=>
  obtain⟨k,s,a,len,cap,ts,rfl,hv,hl,_⟩:=h;unfold jI at hv
  have:=Array.toList_inj.2 (Value.agg.inj hv)
  simp only[List.cons.injEq,Value.int.injEq,Value.string.injEq,Value.slice.injEq,and_true,true_and] at this;rw[iN,iC];exact⟨this.1.symm,by rw[hl,this.2.2.2.1]⟩
structure oR (kd:Int) (g:Nat) (s:ByteArray) (w wr:World) (i0 i:Nat) (l:List (DataW Unit)) (v:Value) (n:Nat):Prop where
 rat:RAt wr g s i
 kept:gX g w wr
 good:∀x∈l,lC x
 len:(jK kd l).length=n
 lei:n+i0<=i
 big:w.heap.size<wr.heap.size
 wid:∀x∈l,(subs x).length+i0<=i
 rows:∃m rs,wr.ownsRow (w.heap.size+1) 69 3 v n (mR rs)/\lH (fun b=>w.heap.size<b/\v.ownBlock≠some b) wr m (jK kd l) rs
theorem oR.start (kd:Int){g:Nat}{s:ByteArray}{w:World}{i0:Nat}(h:RAt w g s i0)(o:Obj):oR kd g s w (w.alloc o) i0 i0 [] (.slice none 0 0) 0 :=
 ⟨h.alloc o,(gX.refl g w).alloc o,fun x hx=>(by cases hx),rfl,oo,by simp,fun x hx=>(by cases hx),0,[],World.ownsRow_nil _ _ _ _,lH.nil _ _ _⟩
theorem uM {w w' : World}{base:Nat}{e:TypeId}{sz:Nat}{v:Value}{n:Nat}{xs:List Value}(h:w.ownsRow base e sz v n xs)(hk:∀k,v.ownBlock=some k->w'.heap[k]? = w.heap[k]?):w'.ownsRow base e sz v n xs:=by
 obtain⟨hl,h1 | ⟨g,cap,cur,rfl,hb,hg,hc⟩⟩:=h
 ·exact⟨hl,.inl h1⟩
 ·exact⟨hl,.inr ⟨g,cap,cur,rfl,hb,(hk g rfl).trans hg,hc⟩⟩
theorem kQ {w:World}{base:Nat}{e:TypeId}{sz:Nat}{v:Value}{n:Nat}{xs:List Value}(h:w.ownsRow base e sz v n xs){k:Nat}(hk:v.ownBlock=some k):base<=k/\k<w.heap.size:=by
 obtain⟨hl,⟨rfl,_⟩ | ⟨g,cap,cur,rfl,hb,hg,hc⟩⟩:=h
 ·cases hk
 ·cases hk
  exact⟨hb,(zza.1 hg).1⟩
theorem k116{p:Prop}(h:p:=by
  intro x hx;rcases List.mem_append.1 hx with hx | hx
  ·exact h.good x hx
  ·obtain rfl:x=t:=by simpa using hx
   exact hG
  ):p:=h
theorem oR.append {kd:Int}{g:Nat}{s:ByteArray}{w wr:World}{i0 i:Nat}{l:List (DataW Unit)}{v:Value}{n:Nat}(h:oR kd g s w wr i0 i l v n)(hgw:g<w.heap.size){W:World}(hK:gX g wr W){j:Nat}(hR:RAt W g s j){t:DataW Unit}(hG:lC t)
  {us:List (DataW Unit)} (hus:us=if iE t=kd then subs t else [t]) {m:Nat} {qs:List Raw} (hX:lH (fun b=>wr.heap.size<=b) W m us qs) {len:Nat} (hlen:us.length=len) (hij:i+len<=j) (hwd:(subs t).length+i<=j) (hj:j<=200) (b o cap:Nat) (hc:∀j u,(mR qs)[j]? = some u->W.cell? ((⟨b,o,none⟩:Addr).add j)=some u) :
  ∃v' W3,(Builtin.append_ #[67,67] 67 #[v,.slice (some ⟨b,o,none⟩) len cap]).run Tryz.prog W=.ok v' W3/\oR kd g s w W3 i0 j (l++[t]) v' (n+len)/\(∀k,k<W.heap.size->v.ownBlock≠some k->W3.heap[k]? = W.heap[k]?):=by
 obtain⟨m0,rs,hown,hrows⟩:=h.rows
 have hsz:w.heap.size<=wr.heap.size:=h.kept.size
 have hbg0:=h.big
 have hsz2:=hK.size
 have hne:∀k,v.ownBlock=some k->k≠g:=fun k hk=>by have:=(kQ hown hk).1;omega
 have hown2:W.ownsRow (w.heap.size+1) 69 3 v n (mR rs):=uM hown fun k hk=>hK.block k (kQ hown hk).2 (hne k hk)
 have hrows2:lH (fun b=>w.heap.size<b/\v.ownBlock≠some b) W m0 (jK kd l) rs:=hrows.kept hsz2 fun b hb hA=>⟨hA,hK.block b hb (by have:=hA.1;omega)⟩
 have hX2:lH (fun b=>w.heap.size<b/\v.ownBlock≠some b) W m us qs:=hX.kept (zzb _) fun b hb hA=>⟨⟨oo,fun e=>by have:=(kQ hown e).2;omega⟩,rfl⟩
 have hall:lH (fun b=>w.heap.size<b/\v.ownBlock≠some b) W (max m0 m) (jK kd l++us) (rs++qs):=(hrows2.upto oo).append (hX2.upto oo)
 have hle:=h.lei
 have hbg:=h.big
 obtain⟨v', W3,hrun,ho,hgr,hat⟩:=wY hown2 oo b o len cap (by rw[hX.1,hlen]) hc oo
 refine⟨v', W3,hrun,⟨?_,?_,?_,?_,oo,by have:=hgr.size;omega,?_,max m0 m,rs++qs,ho,?_⟩,fun k hk hn=>hgr.block k hk (fun e=>hn e.symm)⟩
 ·exact(hgr.block g hR.lt (fun e=>hne g e.symm rfl)).trans hR
 ·refine⟨hgr.os.trans (hK.os.trans h.kept.os),hgr.tape.trans (hK.tape.trans h.kept.tape),hgr.output.trans (hK.output.trans h.kept.output),by have:=hgr.size;omega,fun k hk hg=>?_⟩
  rw[hgr.block k oo (fun e=>by have:=(kQ hown e.symm).1;omega),hK.block k oo hg,h.kept.block k hk hg]
 ·exact k116
 ·rw[wV,List.length_append,h.len,<-hus,hlen]
 ·intro x hx
  rcases List.mem_append.1 hx with hx | hx
  ·have:=h.wid x hx
   omega
  ·obtain rfl:x=t:=by simpa using hx
   omega
 ·rw[wV,<-hus]
  refine hall.kept hgr.size fun b hb hA=>⟨⟨hA.1,?_⟩,hgr.block b hb (fun e=>hA.2 e.symm)⟩
  rcases hat with e | e
  ·rw[e];exact hA.2
  ·rw[e]
   intro e2;cases e2;omega
theorem oR.many {kd:Int}{g:Nat}{s:ByteArray}{w wr:World}{i0 i:Nat}{l:List (DataW Unit)}{v:Value}{n:Nat}(h:oR kd g s w wr i0 i l v n)(hkd:kd=2\/kd=3)(hgw:g<w.heap.size){W1:World}(hK:gX g wr W1){j:Nat}(hR:RAt W1 g s j){t:DataW Unit}(hG:lC t){m:Nat}{k:Int}{nm:ByteArray}{a:Option Addr}{ln cp:Nat}
  (hX:ExA (fun b=>wr.heap.size<=b) W1 m t (.agg #[.int .i64 k,.string nm,.slice a ln cp]))(hk:k=kd)(hij:(subs t).length+i<=j)(hj:j<=200)(X:Obj) :
  ∃v' W3,(Builtin.append_ #[67,67] 67 #[v,.slice a ln cp]).run Tryz.prog (W1.alloc X)=.ok v' W3/\oR kd g s w W3 i0 j (l++[t]) v' (n+ln)/\(∀k,k<W1.heap.size->v.ownBlock≠some k->W3.heap[k]? = W1.heap[k]?):=by
 have hn:=ExA.node (r:=(k,nm,a,ln,cp)) hX
 have hn1:iE t=kd:=hn.1.trans hk
 have hn2:(subs t).length=ln:=hn.2
 have hg2:=(hG.2 (by rw[hn1];exact hkd)).2
 cases m with
 | zero=>exact hX.elim
 | succ m=>
  obtain⟨-,-,-,b,o,rs,rfl,hb,hA,hr,hc⟩:=hX.kids oo;have hK2:gX g wr (W1.alloc X):=hK.alloc X
  obtain⟨v', W3,h1,h2,h3⟩:=h.append hgw hK2 (hR.alloc X) hG (us:=subs t) (by rw[if_pos hn1]) (hr.kept (w' := W1.alloc X) (by simp) fun b hb hA=>⟨hA,zzf W1 X b hb⟩) hn2 oo oo hj b o cp (fun j u hj=>by
   have:=hc j u hj
   rw[rD] at this ⊢;rw[World.cell?_alloc_lt _ _ ⟨b,o+j,none⟩ hb]
   exact this)
  exact⟨v', W3,h1,h2,fun k hk hv=>(h3 k (by simp;omega) hv).trans (zzf W1 X k hk)⟩
theorem oR.one {kd:Int}{g:Nat}{s:ByteArray}{w wr:World}{i0 i:Nat}{l:List (DataW Unit)}{v:Value}{n:Nat}(h:oR kd g s w wr i0 i l v n)(hgw:g<w.heap.size){W1:World}(hK:gX g wr W1){j:Nat}(hR:RAt W1 g s j){t:DataW Unit}(hG:lC t){m:Nat}{k:Int}{nm:ByteArray}{a:Option Addr}{ln cp:Nat}
  (hX:ExA (fun b=>wr.heap.size<=b) W1 m t (.agg #[.int .i64 k,.string nm,.slice a ln cp]))(hk:k≠kd)(hij:i<j)(hwd:(subs t).length+i<=j)(hj:j<=200)(X:Obj) :
  ∃v' W3,(Builtin.append_ #[67,67] 67 #[v,.slice (some ⟨(W1.alloc X).heap.size,0,none⟩) 1 1]).run Tryz.prog ((W1.alloc X).alloc (.cells #[.int .i64 k,.string nm,.slice a ln cp] 69))=.ok v' W3/\oR kd g s w W3 i0 j (l++[t]) v' (n+1)/\(∀k,k<W1.heap.size->v.ownBlock≠some k->W3.heap[k]? = W1.heap[k]?):=by
 have hn:=ExA.node (r:=(k,nm,a,ln,cp)) hX
 have hn1:iE t≠kd:=fun e=>hk (hn.1.symm.trans e)
 obtain⟨Y,hY⟩:∃Y:Obj,Y=.cells #[.int .i64 k,.string nm,.slice a ln cp] 69:=⟨_,rfl⟩
 have hK2:gX g wr ((W1.alloc X).alloc Y):=(hK.alloc X).alloc Y
 have hk2:∀b,b<W1.heap.size->((W1.alloc X).alloc Y).heap[b]? = W1.heap[b]? := fun b hb=>(zzf _ Y b (by simp;omega)).trans (zzf W1 X b hb)
 have hX2:ExA (fun b=>wr.heap.size<=b) ((W1.alloc X).alloc Y) m t (jI (k,nm,a,ln,cp)):=ExA.kept (w:=W1) (by rw[World.size_alloc,World.size_alloc];omega) (fun b hb hA=>⟨hA,hk2 b hb⟩) _ _ _ hX
 obtain⟨v', W3,h1,h2,h3⟩:=h.append (len:=1) hgw hK2 ((hR.alloc X).alloc Y) hG (us:=[t]) (by rw[if_neg hn1]) (lH.one hX2) rfl oo hwd hj (W1.alloc X).heap.size 0 1 (fun j u hj=>by
  rw[rD];refine vE [((k,nm,a,ln,cp):Raw)] 0 (fun i x hx=>?_) j u hj
  have hcell:∀j,((W1.alloc X).alloc Y).cell? ⟨(W1.alloc X).heap.size,j,none⟩=(#[Value.int .i64 k,.string nm,.slice a ln cp]:Array Value)[j]? := fun j=>by
   have:=heap_alloc_new (W1.alloc X) Y
   rw[hY] at this ⊢;exact cell_of_row _ _ j _ _ _ this
  cases i with
  | zero=>
   have hx2:((k,nm,a,ln,cp):Raw)=x:=zzo hx;subst hx2;exact⟨hcell 0,hcell 1,hcell 2⟩
  | succ i=>cases hx)
 rw[hY] at h1
 exact⟨v', W3,h1,h2,fun k hk hv=>(h3 k (by rw[World.size_alloc,World.size_alloc];omega) hv).trans (hk2 k hk)⟩
theorem oR.apart {kd:Int}{g:Nat}{s:ByteArray}{w wr:World}{i0 i:Nat}{l:List (DataW Unit)}{v:Value}{n:Nat}(h:oR kd g s w wr i0 i l v n):v.ownBlock≠some w.heap.size:=fun e=>by
 obtain⟨m,rs,hown,_⟩:=h.rows
 have:=(kQ hown e).1
 omega
theorem k139{p:Prop}(h:p:=by
  exact uM hown fun k hk=>hK.block k (kQ hown hk).2 (by have:=(kQ hown hk).1;omega)
  ):p:=h
theorem oR.next {kd:Int}{g:Nat}{s:ByteArray}{w wr:World}{i0 i:Nat}{l:List (DataW Unit)}{v:Value}{n:Nat}(h:oR kd g s w wr i0 i l v n)(hgw:g<w.heap.size){W:World}(hK:gX g wr W){j:Nat}(hR:RAt W g s j)(hij:i<=j):oR kd g s w W i0 j l v n:=by
 obtain⟨m0,rs,hown,hrows⟩:=h.rows
 have hle:=h.lei
 have hbg:=h.big
 have hsz:=hK.size
 refine⟨hR,h.kept.trans hK,h.good,h.len,oo,oo,fun x hx=>by have:=h.wid x hx;omega,m0,rs,?_,?_⟩
 ·exact k139
 ·exact hrows.kept hsz fun b hb hA=>⟨hA,hK.block b hb (by have:=hA.1;omega)⟩
theorem oR.tree {kd:Int}{g:Nat}{s:ByteArray}{w wr:World}{i0 i:Nat}{l:List (DataW Unit)}{v:Value}{n:Nat}(h:oR kd g s w wr i0 i l v n)(hkd:kd=2\/kd=3)(hl:l≠[])(hi:i<=200) :
  lC (jV kd l)/\(subs (jV kd l)).length+i0<=i/\((n=1/\∃m b k nm a ln cp cap,v=.slice (some ⟨b,0,none⟩) 1 cap/\wr.cell? ⟨b,0,none⟩=some (.int .i64 k)/\wr.cell? ⟨b,1,none⟩=some (.string nm)/\wr.cell? ⟨b,2,none⟩=some (.slice a ln cp)/\ExA (fun b=>w.heap.size<b) wr m (jV kd l) (.agg #[.int .i64 k,.string nm,.slice a ln cp])) ∨
   (n≠1/\∃m a cap,v=.slice a n cap/\ExA (fun b=>w.heap.size<b) wr m (jV kd l) (.agg #[.int .i64 kd,.string ⟨#[]⟩,.slice a n cap]))):=by
 obtain⟨m0,rs,hown,hrows⟩:=h.rows
 have hle:=h.lei
 obtain⟨hG,hcase⟩:=gGw hkd l h.good hl
 refine⟨hG,?_,?_⟩
 ·rcases hcase with ⟨_,_,h3⟩ | ⟨_,_,h3⟩
  ·exact h.wid _ h3
  ·rw[h3,iC,h.len]
   exact hle
 rw[h.len] at hcase
 have hr1:rs.length=n:=by rw[hrows.1,h.len]
 rcases hcase with ⟨h1,h2,_⟩ | ⟨h1,h2,h3⟩
 ·refine .inl ⟨h1,?_⟩
  subst h1;rw[h2] at hrows;obtain⟨r,hr,hx⟩:=hrows.2 0 _ rfl;obtain⟨hl', ⟨_,h0⟩ | ⟨b,cap,cur,rfl,hb,hgb,hc1,hc2,hc3,hc4⟩⟩:=hown
  ·cases h0
  ·obtain⟨f0,f1,f2⟩:=gAr rs 0 r hr
   have key:∀j u,(mR rs)[j]? = some u->wr.cell? ⟨b,j,none⟩=some u:=by
    intro j u hj
    have hjl:j<1 * 3:=by
     have:=(zzc.1 hj).1
     rw[oE,hr1] at this;omega
    rw[<-hc4,List.getElem?_take,if_pos hjl,Array.getElem?_toList] at hj;simp[World.cell?,hgb,hj]
   exact⟨m0,b,r.1,r.2.1,r.2.2.1,r.2.2.2.1,r.2.2.2.2,cap,rfl,key _ _ f0,key _ _ f1,key _ _ f2,hx.mono fun b _ hA=>hA.1⟩
 ·refine .inr ⟨h1,?_⟩
  obtain⟨a,cap,rfl,_,hx⟩:=ExA.of_owns (A:=fun b=>w.heap.size<b) hown (hrows.kept (zzb _) fun b _ hA=>⟨hA.1,rfl⟩) oo (fun g hg=>by have:=(kQ hown hg).1;omega) kd ⟨#[]⟩;rw[<-h3] at hx;exact⟨_,a,cap,rfl,hx⟩
end Go.Proofs.YtjkebndkeamijaaGreatDoor
/- Brk: the reader's brackets, bare and mG, where choices reads what stands in brackets: what they return and leave. -/
namespace Go.Proofs.YtjkebndkeamijaaGreatDoor
open Go.RowKit
def CH (g:Nat)(s:ByteArray)(n:Nat):Prop:=∀W i,RAt W g s i->Pl s i->s.size - i<n->Calls Tryz.prog 172 #[.pointer (some ⟨g,0,none⟩)] W fun e W' => gX g W W' /\ sF g s W.heap.size i (FR s (gZ n (left s i))) (DB s (gZ n (left s i))) e W'
theorem yR {s:ByteArray}{n i:Nat}(h:Pl s i)(hp:pk s i=40):i<s.size/\lZ (gZ n) (left s i)=match gZ n (left s (skip s (i+1))) with
   | (none,q')=>(none,q')
   | (some _,[])=>(none,[])
   | (some t,d::q')=>if d=41 then (some t,jX q') else (none,d::q'):=by
 rcases pF h.1 with ⟨e,hk,_⟩ | ⟨c,q,e,hk,hq,hlt⟩
 ·rw[hk] at hp
  cases hp
 ·obtain rfl:c=40:=qF (n:=40) (by decide) (by rw[<-hk,hp];rfl)
  refine⟨hlt,?_⟩;obtain⟨p1,p2,p3⟩:=Pl.skip (s:=s) (i:=i+1) oo;have hsk:=h.2;have ha:gZ n (left s (skip s (i+1)))=gZ n q:=gCw n (by rw[p3,sS,hq]);rw[ha];unfold lZ;rw[hsk,e];simp only[show gH 40=false from by decide,Bool.false_eq_true,if_false,if_true]
  all_goals rfl
theorem gJr {s:ByteArray}{n i j:Nat}(h:Pl s i)(hp:pk s i=40)(ha:gZ n (left s (skip s (i+1)))=(none,left s j)):lZ (gZ n) (left s i)=(none,left s j):=by
 rw[(yR h hp).2,ha]
theorem hDe {s:ByteArray}{n i j:Nat}{t:DataW Unit}(h:Pl s i)(hp:pk s i=40)(ha:gZ n (left s (skip s (i+1)))=(some t,left s j))(hj:j<=s.size)(hc:pk s j≠41):lZ (gZ n) (left s i)=(none,left s j):=by
 rw[(yR h hp).2,ha]
 rcases pF hj with ⟨e,hk,_⟩ | ⟨c,q,e,hk,hq,hlt⟩
 ·rw[e]
 ·rw[e]
  simp only;rw[if_neg (by rintro rfl;exact hc (by rw[hk];rfl))]
theorem gYr {s:ByteArray}{n i j:Nat}{t:DataW Unit}(h:Pl s i)(hp:pk s i=40)(ha:gZ n (left s (skip s (i+1)))=(some t,left s j))(hj:j<=s.size)(hc:pk s j=41):j<s.size/\lZ (gZ n) (left s i)=(some t,left s (skip s (j+1))):=by
 rcases pF hj with ⟨e,hk,_⟩ | ⟨c,q,e,hk,hq,hlt⟩
 ·rw[hk] at hc
  cases hc
 ·obtain rfl:c=41:=qF (n:=41) (by decide) (by rw[<-hk,hc];rfl)
  obtain⟨p1,p2,p3⟩:=Pl.skip (s:=s) (i:=j+1) oo;refine⟨hlt,?_⟩;rw[(yR h hp).2,ha,e];simp only[if_true];rw[p3,hq]
theorem Bad.pk {s:ByteArray}{j:Nat}(hj:j<=s.size)(h:Bad (left s j)):pk s j≠41/\pk s j≠124:=by
 obtain⟨c,q,e,h1,h2⟩:=h
 rcases pF hj with ⟨e2,_⟩ | ⟨c2,q2,e2,hk,_⟩
 ·rw[e] at e2
  cases e2
 ·rw[e] at e2
  cases e2;rw[hk];exact⟨fun e=>h2 (qF (n:=41) (by decide) e),fun e=>h1 (qF (n:=124) (by decide) e)⟩
theorem k42{p:Prop}(h:p:=by
  (go_wp2_with (refine wpList_store_row rfl 69 _ _ rfl w.heap.size #[.int .i64 0,.string ⟨#[]⟩,.slice none 0 0] rfl rfl 69 _ HZ.out gE rfl (jF _ _ _ _ _) ?_));refine bodyPost_ret (gU rfl _ _ w.heap.size 69 #[.int .i64 0,.string ⟨#[]⟩,.slice none 0 0] (0,0) _ rfl (setRow_heap _ _ _ _ _ _ HZ.out) Tryz.underlying69 rfl gE) rfl ?_;exact⟨(HF.out _).1,.inl ⟨j,(HF.out _).2,HF2.out,rfl⟩⟩
  ):p:=h
theorem k39{p:Prop}(h:p:=by
  unfold zE uL;(go_wp2_with (refine wpList_store_row rfl 69 _ _ rfl w.heap.size #[.int .i64 0,.string ⟨#[]⟩,.slice none 0 0] rfl rfl 69 _ (HZ.out _) gE rfl (jF _ _ _ _ _) ?_));refine bodyPost_ret (gU rfl _ _ w.heap.size 69 #[.int .i64 0,.string ⟨#[]⟩,.slice none 0 0] (0,0) _ rfl (setRow_heap _ _ _ _ _ _ (HZ.out _)) Tryz.underlying69 rfl gE) rfl ?_;exact⟨(HF.out _ _).1,.inl ⟨j,(HF.out _ _).2,HF2.out,rfl⟩⟩
  ):p:=h
theorem k32{p:Prop}(h:p:=by
  (go_wp2_with (refine wpList_store_row rfl 69 _ _ rfl w.heap.size #[.int .i64 k,.string nm,.slice a ln cp] rfl rfl 69 _ HZ.out gE rfl (jF _ _ _ _ _) ?_));refine bodyPost_ret (gU rfl _ _ w.heap.size 69 #[.int .i64 k,.string nm,.slice a ln cp] (0,0) _ rfl (setRow_heap _ _ _ _ _ _ HZ.out) Tryz.underlying69 rfl gE) rfl ?_;obtain⟨d1,d2,d3,d4⟩:=HD.out;exact⟨(HF.out _).1,.inr ⟨_,t,m,(k,nm,a,ln,cp),(HF.out _).2.1,d1,d2,d3,d4,(HF.out _).2.2,rfl⟩⟩
  ):p:=h
theorem gHe (g:Nat)(s:ByteArray)(n:Nat)(hs:s.size<=200)(hCH:CH g s n)(i:Nat)(w:World)(hR:RAt w g s i)(hP:Pl s i)(hn:s.size - i<n+1)(hp:pk s i=40) :
  Calls Tryz.prog 194 #[.pointer (some ⟨g,0,none⟩)] w fun e w' => gX g w w' /\ sF g s w.heap.size i (FR s (lZ (gZ n) (left s i))) (DR s (lZ (gZ n) (left s i))) e w' := by
 obtain⟨hlt,-⟩:=yR (n:=n) hP hp
 obtain⟨P1,p2,p3⟩:=Pl.skip (s:=s) (i:=i+1) oo
 have hgl:=hR.lt
 have HG:Hid (g<w.heap.size):=hgl
 have HP1:Hid (∀W,RAt W g s i->Calls Tryz.prog 171 #[.pointer (some ⟨g,0,none⟩),.int .i64 1] W fun r w' => r=.returned (.tuple #[])/\RAt w' g s (skip s (i+1))/\jW g W w'):=fun W h=>qX g s i 1 W h oo oo
 have HC:Hid (∀W,RAt W g s (skip s (i+1))->Calls Tryz.prog 172 #[.pointer (some ⟨g,0,none⟩)] W fun e W' => gX g W W' /\ sF g s W.heap.size (skip s (i+1)) (FR s (gZ n (left s (skip s (i+1))))) (DB s (gZ n (left s (skip s (i+1))))) e W'):=fun W h=>hCH W _ h P1 oo
 have HR0:Hid (∀o,RAt (w.alloc o) g s i):=fun o=>hR.alloc o
 have HI:Hid (Pl s i/\pk s i=40/\i+1<=skip s (i+1)/\s.size<=200):=⟨hP,hp,p2,hs⟩
 clear hR hP hp P1 p2 p3 hn hCH hs hlt hgl
 go_enter Tryz.func194,Tryz.ntmps194
 go_wp2_with fail
 refine(HP1.out _ (HR0.out _)).mono ?_
 rintro e1 W1 ⟨rfl,hR1,hO1⟩
 have hs1:W1.heap.size=w.heap.size+1:=by rw[hO1.size];simp
 have hz1:W1.heap[w.heap.size]? = some (.cells #[.int .i64 0,.string ⟨#[]⟩,.slice none 0 0] 69 (0,0)):=(hO1.block _ (by have:=HG.out;omega)).trans (heap_alloc_new w _)
 have hK1:gX g w W1:=((gX.refl g w).alloc _).trans hO1.kept
 clear hO1
 go_wp2_with fail
 refine(HC.out _ hR1).mono ?_
 rintro e2 W2 ⟨hK2,hE⟩
 have hz2:W2.heap[w.heap.size]? = some (.cells #[.int .i64 0,.string ⟨#[]⟩,.slice none 0 0] 69 (0,0)):=(hK2.block _ oo (by have:=HG.out;omega)).trans hz1
 have hKW:gX g w W2:=hK1.trans hK2
 have hs2:=hK2.size
 rcases hE with ⟨j,hRj,hF,rfl⟩ | ⟨j,t,m,r,hRj,hD,hG,hij,hlen,hX,rfl⟩
 ·have HZ:Hid (∀o,(W2.alloc o).heap[w.heap.size]? = some (.cells #[.int .i64 0,.string ⟨#[]⟩,.slice none 0 0] 69 (0,0))):=fun o=>(zzf W2 o _ oo).trans hz2
  (have HF:Hid (∀o cs,gX g w ((W2.alloc o).setRow w.heap.size cs)/\RAt ((W2.alloc o).setRow w.heap.size cs) g s j):=fun o cs=>⟨(hKW.alloc o).setRow _ _ (zzb _),(hRj.alloc o).setRow _ _ (by have:=HG.out;omega)⟩);have HF2:Hid (FR s (lZ (gZ n) (left s i)) j):=⟨gJr HI.out.1 HI.out.2.1 hF.1,hF.2⟩;clear hKW hRj hF hK1 hK2 hz1 hz2 hR1 HP1 HC HR0;exact k39
 ·obtain⟨k,nm,a,ln,cp⟩:=r
  unfold jI at hX ⊢;simp only at hX ⊢;have hjs:=hD.2.1;have HPK:Hid (∀o,Calls Tryz.prog 180 #[.pointer (some ⟨g,0,none⟩)] (W2.alloc o) fun r w' => r=.returned (.int .u8 (pk s j))/\RAt w' g s j/\jW g (W2.alloc o) w'):=fun o=>pV g s j _ (hRj.alloc o) hjs (by have:=HI.out.2.2.2;omega)
  by_cases hc:pk s j=41
  ·rw[hc] at HPK
   have hal:gZ n (left s (skip s (i+1)))=(some t,left s j):=by
    rcases hD.1 with h | ⟨_,h⟩
    ·exact h
    ·exact absurd hc (h.pk hjs).1
   obtain⟨hjl,hbs⟩:=gYr HI.out.1 HI.out.2.1 hal hjs hc;obtain⟨P2,q2,q3⟩:=Pl.skip (s:=s) (i:=j+1) oo;(have HP2:Hid (∀W,RAt W g s j->Calls Tryz.prog 171 #[.pointer (some ⟨g,0,none⟩),.int .i64 1] W fun r w' => r=.returned (.tuple #[])/\RAt w' g s (skip s (j+1))/\jW g W w'):=fun W h=>qX g s j 1 W h oo (by have:=HI.out.2.2.2;omega));have HD:Hid (DR s (lZ (gZ n) (left s i)) t (skip s (j+1))/\lC t/\i<skip s (j+1)/\(subs t).length+i<=skip s (j+1)):=⟨⟨hbs,P2⟩,hG,by have:=HI.out.2.2.1;omega,by have:=HI.out.2.2.1;omega⟩;have HX:Hid (ExA (fun b=>W1.heap.size<=b) W2 m t (.agg #[.int .i64 k,.string nm,.slice a ln cp])):=hX;have HW:Hid (gX g w W2/\W2.heap[w.heap.size]? = some (.cells #[.int .i64 0,.string ⟨#[]⟩,.slice none 0 0] 69 (0,0))/\W1.heap.size=w.heap.size+1/\W1.heap.size<=W2.heap.size):=⟨hKW,hz2,hs1,hs2⟩;clear hX hD hG hij hlen hal hjl hbs P2 q2 q3 hc hjs hRj hKW hK1 hK2 hz1 hz2 hR1 HP1 HC HR0 hs1 hs2;(go_wp2_with fail);refine(HPK.out _).mono ?_;rintro e3 W3 ⟨rfl,hR3,hO3⟩;(go_wp2_with fail);refine(HP2.out _ hR3).mono ?_;rintro e4 W4 ⟨rfl,hR4,hO4⟩;obtain⟨hKW,hz2,hs1,hs2⟩:=HW.out;have hO:=hO3.trans hO4;(have hs4:W4.heap.size=W2.heap.size+1:=by rw[hO.size];simp);(have hb4:∀b,b<W2.heap.size->b≠g->W4.heap[b]? = W2.heap[b]? := fun b hb hg=>(hO.block b hg).trans (zzf W2 _ b hb));have hgl:=HG.out;(have hg2:g≠W2.heap.size:=by omega);have he4:W4.heap[W2.heap.size]? = some (.cells #[.int .i64 k,.string nm,.slice a ln cp] 69 (0,0)):=(hO.block _ (Ne.symm hg2)).trans (heap_alloc_new W2 _);have c0:=cell_of_row W4 W2.heap.size 0 _ _ _ he4;have c1:=cell_of_row W4 W2.heap.size 1 _ _ _ he4;have c2:=cell_of_row W4 W2.heap.size 2 _ _ _ he4;have c0' : W4.cell? ⟨W2.heap.size,0,none⟩=some (.int .i64 k):=c0;have c1' : W4.cell? ⟨W2.heap.size,1,none⟩=some (.string nm):=c1;have c2' : W4.cell? ⟨W2.heap.size,2,none⟩=some (.slice a ln cp):=c2;have HZ:Hid (W4.heap[w.heap.size]? = some (.cells #[.int .i64 0,.string ⟨#[]⟩,.slice none 0 0] 69 (0,0))):=(hb4 _ oo oo).trans hz2;(have HF:Hid (∀cs,gX g w (W4.setRow w.heap.size cs)/\RAt (W4.setRow w.heap.size cs) g s (skip s (j+1))/\ExA (fun b=>w.heap.size<=b) (W4.setRow w.heap.size cs) m t (.agg #[.int .i64 k,.string nm,.slice a ln cp])):=fun cs=>⟨(hKW.trans ((gX.refl g W2).alloc _ |>.trans hO.kept)).setRow _ _ (zzb _),hR4.setRow _ _ oo,ExA.kept (by rw[size_setRow];omega) (fun b hb hA=>⟨oo,(setRow_other _ _ _ _ oo).trans (hb4 b hb oo)⟩) _ _ _ HX.out⟩);clear hKW hz2 hs1 hs2 hO hs4 hb4 hgl he4 hR4 hO4 hR3 hO3 HX HW HP2 HPK c0 c1 c2;exact k32
  ·have HF2:Hid (FR s (lZ (gZ n) (left s i)) j):=by
    refine⟨?_,hD.2⟩;rcases hD.1 with h | ⟨h,_⟩
    ·exact hDe HI.out.1 HI.out.2.1 h hjs hc
    ·exact gJr HI.out.1 HI.out.2.1 h
   generalize pk s j=C at *;(have e1:(C==41)=false:=by rw[beq_eq_false_iff_ne];exact hc);(have e2:(C != 41)=true:=by rw[bne_iff_ne];exact hc);(have HRF:Hid (∀W,RAt W g s j->Calls Tryz.prog 173 #[.pointer (some ⟨g,0,none⟩)] W fun r w' => r=.returned (uL j 4)/\w' = W):=fun W h=>vC g s j W h);have HW:Hid (gX g w W2/\W2.heap[w.heap.size]? = some (.cells #[.int .i64 0,.string ⟨#[]⟩,.slice none 0 0] 69 (0,0))/\w.heap.size<W2.heap.size):=⟨hKW,hz2,oo⟩;clear hX hD hG hij hlen hc hjs hRj hKW hK1 hK2 hz1 hz2 hR1 HP1 HC HR0 hs1 hs2;(go_wp2_with fail);refine(HPK.out _).mono ?_;rintro e3 W3 ⟨rfl,hR3,hO3⟩;(go_wp2_with fail);refine(HRF.out _ hR3).mono ?_;rintro e4 W4 ⟨rfl,hW4⟩;rw[hW4];clear hW4;obtain⟨hKW,hz2,hlt⟩:=HW.out;have hgl:=HG.out;have HZ:Hid (W3.heap[w.heap.size]? = some (.cells #[.int .i64 0,.string ⟨#[]⟩,.slice none 0 0] 69 (0,0))):=(hO3.block _ oo).trans ((zzf W2 _ _ hlt).trans hz2);(have HF:Hid (∀cs,gX g w (W3.setRow w.heap.size cs)/\RAt (W3.setRow w.heap.size cs) g s j):=fun cs=>⟨(hKW.trans ((gX.refl g W2).alloc _ |>.trans hO3.kept)).setRow _ _ (zzb _),hR3.setRow _ _ oo⟩);clear hKW hz2 hlt hgl hO3 hR3 HW HRF HPK;exact k42
end Go.Proofs.YtjkebndkeamijaaGreatDoor
/- Bare: the reader's bare, where choices reads what stands in brackets: what it returns and leaves. -/
namespace Go.Proofs.YtjkebndkeamijaaGreatDoor
open Go.RowKit
theorem gYs {s:ByteArray}{n i:Nat}(h:Pl s i)(hp:pL (pk s i)=true)(nm:ByteArray)(hnm:bts nm=(left s i).takeWhile gH)(hl:i+((left s i).takeWhile gH).length<=s.size) :
  DR s (lZ (gZ n) (left s i)) (node 1 nm []) (skip s (i+((left s i).takeWhile gH).length))/\i<skip s (i+((left s i).takeWhile gH).length):=by
 obtain⟨P2,q2,q3⟩:=Pl.skip hl
 rcases pF h.1 with ⟨e,hk,_⟩ | ⟨c,q,e,hk,hq,hlt⟩
 ·rw[hk] at hp
  cases hp
 ·rw[hk,oH] at hp
  (have hpos:0<((left s i).takeWhile gH).length:=by rw[e,List.takeWhile_cons,hp];simp);refine⟨⟨?_,P2⟩,oo⟩;rw[q3,gJa,(pH (p:=gH) (left s i)).2];(have hn:nm=⟨((left s i).takeWhile gH).toArray⟩:=by rw[<-hnm,hAx]);rw[hn];have hsk:=h.2;unfold lZ;rw[hsk,e];simp only[hp,if_true]
theorem gYu {s:ByteArray}{n i:Nat}(h:Pl s i)(hp:pL (pk s i)=false)(h40:pk s i≠40):FR s (lZ (gZ n) (left s i)) i:=by
 refine⟨?_,h⟩
 have hsk:=h.2
 rcases pF h.1 with ⟨e,hk,_⟩ | ⟨c,q,e,hk,hq,hlt⟩
 ·unfold lZ
  rw[hsk,e]
 ·rw[hk,oH] at hp
  unfold lZ;rw[hsk,e];simp only[hp,Bool.false_eq_true,if_false];rw[if_neg (by rintro rfl;exact h40 (by rw[hk];rfl))]
theorem gTv (g:Nat)(s:ByteArray)(n:Nat)(hs:s.size<=200)(hCH:CH g s n)(i:Nat)(w:World)(hR:RAt w g s i)(hP:Pl s i)(hn:s.size - i<n+1) :
  Calls Tryz.prog 191 #[.pointer (some ⟨g,0,none⟩)] w fun e w' => gX g w w' /\ sF g s w.heap.size i (FR s (lZ (gZ n) (left s i))) (DR s (lZ (gZ n) (left s i))) e w' := by
 have hgl:=hR.lt
 have HG:Hid (g<w.heap.size):=hgl
 have HPK:Hid (∀W,RAt W g s i->Calls Tryz.prog 180 #[.pointer (some ⟨g,0,none⟩)] W fun r w' => r=.returned (.int .u8 (pk s i))/\RAt w' g s i/\jW g W w'):=fun W h=>pV g s i W h hP.1 oo
 have HL:Hid (∀c W,Calls Tryz.prog 187 #[.int .u8 c] W fun r w' => r=.returned (.bool (pL c))/\w' = W):=fun c W=>tC c W
 have HN:Hid (∀W,RAt W g s i->Calls Tryz.prog 193 #[.pointer (some ⟨g,0,none⟩)] W fun e w' => ∃nm,e=.returned (.agg #[.int .i64 1,.string nm,.slice none 0 0])/\bts nm=(left s i).takeWhile gH/\gX g W w' /\ RAt w' g s (skip s (i+((left s i).takeWhile gH).length))/\i+((left s i).takeWhile gH).length<=s.size):=fun W h=>gSk g s i W h hP.1 hs
 have HB:Hid (pk s i=40->∀W,RAt W g s i->Calls Tryz.prog 194 #[.pointer (some ⟨g,0,none⟩)] W fun e w' => gX g W w' /\ sF g s W.heap.size i (FR s (lZ (gZ n) (left s i))) (DR s (lZ (gZ n) (left s i))) e w'):=fun hp W h=>gHe g s n hs hCH i W h hP hn hp
 have HRF:Hid (∀W,RAt W g s i->Calls Tryz.prog 173 #[.pointer (some ⟨g,0,none⟩)] W fun r w' => r=.returned (uL i 4)/\w' = W):=fun W h=>vC g s i W h
 have HR0:Hid (∀o,RAt (w.alloc o) g s i):=fun o=>hR.alloc o
 have HI:Hid (Pl s i):=hP
 have hpr:=gNz hP.1
 clear hR hP hn hCH hs hgl
 cases hlt:pL (pk s i) with
 | true=>
  have HLt:Hid (pL (pk s i)=true):=hlt;obtain⟨C,hC⟩:∃C,pk s i=C:=⟨_,rfl⟩;rw[hC] at HPK hlt;go_enter Tryz.func191,Tryz.ntmps191;(go_wp2_with fail);refine(HPK.out _ (HR0.out _)).mono ?_;rintro e1 W1 ⟨rfl,hR1,hO1⟩;(go_wp2_with fail);refine(HL.out C W1).mono ?_;rintro e2 W2 ⟨rfl,hW2⟩;rw[hW2,hlt];clear hW2;(have hs1:W1.heap.size=w.heap.size+1:=by rw[hO1.size];simp);have hz1:W1.heap[w.heap.size]? = some (.cells #[.int .i64 0,.string ⟨#[]⟩,.slice none 0 0] 69 (0,0)):=(hO1.block _ (by have:=HG.out;omega)).trans (heap_alloc_new w _);have hK1:gX g w W1:=((gX.refl g w).alloc _).trans hO1.kept;clear hO1;(go_wp2_with fail);refine(HN.out _ hR1).mono ?_;rintro e3 W3 ⟨nm,rfl,hnm,hK3,hR3,hl3⟩;have hgl:=HG.out;have HZ:Hid (W3.heap[w.heap.size]? = some (.cells #[.int .i64 0,.string ⟨#[]⟩,.slice none 0 0] 69 (0,0))):=(hK3.block _ oo oo).trans hz1;have HD:=gYs (n:=n) HI.out HLt.out nm hnm hl3;(have HF:Hid (∀cs,gX g w (W3.setRow w.heap.size cs)/\RAt (W3.setRow w.heap.size cs) g s (skip s (i+((left s i).takeWhile gH).length))):=fun cs=>⟨(hK1.trans hK3).setRow _ _ (zzb _),hR3.setRow _ _ oo⟩);have HD2:Hid (DR s (lZ (gZ n) (left s i)) (node 1 nm []) (skip s (i+((left s i).takeWhile gH).length))/\i<skip s (i+((left s i).takeWhile gH).length)):=HD;clear hgl hnm hK3 hR3 hl3 HD hs1 hz1 hK1 hR1 HN HB HRF HPK HR0;(go_wp2_with (refine wpList_store_row rfl 69 _ _ rfl w.heap.size #[.int .i64 1,.string nm,.slice none 0 0] rfl rfl 69 _ HZ.out gE rfl (jF _ _ _ _ _) ?_));refine bodyPost_ret (gU rfl _ _ w.heap.size 69 #[.int .i64 1,.string nm,.slice none 0 0] (0,0) _ rfl (setRow_heap _ _ _ _ _ _ HZ.out) Tryz.underlying69 rfl gE) rfl ?_;obtain⟨d1,d2⟩:=HD2.out;exact⟨(HF.out _).1,.inr ⟨_,_,1,(1,nm,none,0,0),(HF.out _).2,d1,lC.of (by intro h;rcases h with h | h<;>cases h),d2,by rw[iC,List.length_nil];omega,ExA.leaf _ _ 0 1 nm none 0,rfl⟩⟩
 | false=>
  have HLt:Hid (pL (pk s i)=false):=hlt
  by_cases h40:pk s i=40
  ·have HB2:=HB.out h40
   have HB3:Hid (∀W,RAt W g s i->Calls Tryz.prog 194 #[.pointer (some ⟨g,0,none⟩)] W fun e w' => gX g W w' /\ sF g s W.heap.size i (FR s (lZ (gZ n) (left s i))) (DR s (lZ (gZ n) (left s i))) e w'):=HB2;rw[h40] at HPK hlt;clear HB HB2 h40 HN HRF;go_enter Tryz.func191,Tryz.ntmps191;(go_wp2_with fail);refine(HPK.out _ (HR0.out _)).mono ?_;rintro e1 W1 ⟨rfl,hR1,hO1⟩;(go_wp2_with fail);refine(HL.out 40 W1).mono ?_;rintro e2 W2 ⟨rfl,hW2⟩;rw[hW2,hlt];clear hW2;(go_wp2_with fail);refine(HPK.out _ hR1).mono ?_;rintro e3 W2 ⟨rfl,hR2,hO2⟩;have hO:=hO1.trans hO2;(have hs1:W2.heap.size=w.heap.size+1:=by rw[hO.size];simp);have hz1:W2.heap[w.heap.size]? = some (.cells #[.int .i64 0,.string ⟨#[]⟩,.slice none 0 0] 69 (0,0)):=(hO.block _ (by have:=HG.out;omega)).trans (heap_alloc_new w _);have hK1:gX g w W2:=((gX.refl g w).alloc _).trans hO.kept;clear hO1 hO2 hO;(go_wp2_with fail);refine(HB3.out _ hR2).mono ?_;rintro e4 W4 ⟨hK4,hE⟩;have hgl:=HG.out;have hs4:=hK4.size;have hz4:W4.heap[w.heap.size]? = some (.cells #[.int .i64 0,.string ⟨#[]⟩,.slice none 0 0] 69 (0,0)):=(hK4.block _ oo oo).trans hz1;have HZ:Hid (W4.heap[w.heap.size]? = some (.cells #[.int .i64 0,.string ⟨#[]⟩,.slice none 0 0] 69 (0,0))):=hz4;rcases hE with ⟨j,hRj,hF,rfl⟩ | ⟨j,t,m,r,hRj,hD,hG,hij,hlen,hX,rfl⟩
   ·have HF:Hid (∀cs,gX g w (W4.setRow w.heap.size cs)/\RAt (W4.setRow w.heap.size cs) g s j):=fun cs=>⟨(hK1.trans hK4).setRow _ _ (zzb _),hRj.setRow _ _ oo⟩
    have HF2:Hid (FR s (lZ (gZ n) (left s i)) j):=hF;clear hgl hF hRj hK4 hK1 hz1 hz4 hs1 hs4 hR1 hR2 HB3 HPK HR0;unfold zE uL;exact k42
   ·obtain⟨k,nm,a,ln,cp⟩:=r
    unfold jI at hX ⊢;simp only at hX ⊢;(have HF:Hid (∀cs,gX g w (W4.setRow w.heap.size cs)/\RAt (W4.setRow w.heap.size cs) g s j/\ExA (fun b=>w.heap.size<=b) (W4.setRow w.heap.size cs) m t (.agg #[.int .i64 k,.string nm,.slice a ln cp])):=fun cs=>⟨(hK1.trans hK4).setRow _ _ (zzb _),hRj.setRow _ _ oo,ExA.kept (by rw[size_setRow];omega) (fun b hb hA=>⟨oo,setRow_other _ _ _ _ oo⟩) _ _ _ hX⟩);have HD:Hid (DR s (lZ (gZ n) (left s i)) t j/\lC t/\i<j/\(subs t).length+i<=j):=⟨hD,hG,hij,hlen⟩;clear hgl hD hG hij hlen hX hRj hK4 hK1 hz1 hz4 hs1 hs4 hR1 hR2 HB3 HPK HR0;exact k32
  ·have HFR:Hid (FR s (lZ (gZ n) (left s i)) i):=gYu HI.out HLt.out h40
   clear HB HN;obtain⟨C,hC⟩:∃C,pk s i=C:=⟨_,rfl⟩;rw[hC] at HPK hlt h40;(have e40:(C==40)=false:=by rw[beq_eq_false_iff_ne];exact h40);go_enter Tryz.func191,Tryz.ntmps191;(go_wp2_with fail);refine(HPK.out _ (HR0.out _)).mono ?_;rintro e1 W1 ⟨rfl,hR1,hO1⟩;(go_wp2_with fail);refine(HL.out C W1).mono ?_;rintro e2 W2 ⟨rfl,hW2⟩;rw[hW2,hlt];clear hW2;(go_wp2_with fail);refine(HPK.out _ hR1).mono ?_;rintro e3 W2 ⟨rfl,hR2,hO2⟩;(go_wp2_with fail);refine(HRF.out _ hR2).mono ?_;rintro e4 W4 ⟨rfl,hW4⟩;rw[hW4];clear hW4;have hO:=hO1.trans hO2;have hgl:=HG.out;have HZ:Hid (W2.heap[w.heap.size]? = some (.cells #[.int .i64 0,.string ⟨#[]⟩,.slice none 0 0] 69 (0,0))):=(hO.block _ oo).trans (heap_alloc_new w _);(have HF:Hid (∀cs,gX g w (W2.setRow w.heap.size cs)/\RAt (W2.setRow w.heap.size cs) g s i):=fun cs=>⟨(((gX.refl g w).alloc _).trans hO.kept).setRow _ _ (zzb _),hR2.setRow _ _ oo⟩);clear hgl hO hO1 hO2 hR1 hR2 HRF HPK HR0;(go_wp2_with (refine wpList_store_row rfl 69 _ _ rfl w.heap.size #[.int .i64 0,.string ⟨#[]⟩,.slice none 0 0] rfl rfl 69 _ HZ.out gE rfl (jF _ _ _ _ _) ?_));refine bodyPost_ret (gU rfl _ _ w.heap.size 69 #[.int .i64 0,.string ⟨#[]⟩,.slice none 0 0] (0,0) _ rfl (setRow_heap _ _ _ _ _ _ HZ.out) Tryz.underlying69 rfl gE) rfl ?_;exact⟨(HF.out _).1,.inl ⟨i,(HF.out _).2,HFR.out,rfl⟩⟩
end Go.Proofs.YtjkebndkeamijaaGreatDoor
/- Sign: the reader's mG, where choices reads what stands in brackets: what it returns and leaves. -/
namespace Go.Proofs.YtjkebndkeamijaaGreatDoor
open Go.RowKit
theorem gUe (c:UInt8):kS (c.toNat:Int) = -1/\jL c=0\/0<=kS (c.toNat:Int)/\kS (c.toNat:Int)<=2/\jL c=4+kS (c.toNat:Int)/\jL c≠0:=by
 unfold kS jL
 by_cases h1:c=42
 ·subst h1;decide
 by_cases h2:c=43
 ·subst h2;decide
 by_cases h3:c=63
 ·subst h3;decide
 have n1:¬((c.toNat:Int)=42):=fun e=>h1 (qF (n:=42) (by decide) e)
 have n2:¬((c.toNat:Int)=43):=fun e=>h2 (qF (n:=43) (by decide) e)
 have n3:¬((c.toNat:Int)=63):=fun e=>h3 (qF (n:=63) (by decide) e)
 rw[if_neg n1,if_neg n2,if_neg n3,if_neg h1,if_neg h2,if_neg h3]
 exact .inl ⟨rfl,rfl⟩
theorem gFl (c:Int) : -1<=kS c/\kS c<=2:=by
 unfold kS
 split
 ·omega
 ·split
  ·omega
  ·split<;>omega
theorem gVt {s:ByteArray}{j:Nat}(hj:Pl s j)(t:DataW Unit)(h:kS (pk s j)<0):iY t (left s j)=(t,left s j):=by
 rcases pF hj.1 with ⟨e,hk,_⟩ | ⟨c,q,e,hk,hq,hlt⟩
 ·rw[e];rfl
 ·rw[hk] at h
  have hsk:=hj.2;rw[e] at hsk ⊢;have h32:c≠32:=uZ _ c q hsk;rw[iY,if_neg h32];rcases gUe c with ⟨_,h0⟩ | ⟨h1,_⟩
  ·rw[if_pos h0]
  ·omega
theorem gIo {s:ByteArray}{j:Nat}(hj:Pl s j)(t:DataW Unit)(h:¬kS (pk s j)<0):j<s.size/\iY t (left s j)=iY (node (4+kS (pk s j)) ⟨#[]⟩ [t]) (left s (skip s (j+1))):=by
 rcases pF hj.1 with ⟨e,hk,_⟩ | ⟨c,q,e,hk,hq,hlt⟩
 ·rw[hk] at h
  exact absurd (by decide) h
 ·refine⟨hlt,?_⟩
  obtain⟨P2,q2,q3⟩:=Pl.skip (s:=s) (i:=j+1) oo;have hsk:=hj.2;rw[hk] at h ⊢;rw[q3,hq];rw[e] at hsk ⊢;have h32:c≠32:=uZ _ c q hsk;rw[iY,if_neg h32,sT];rcases gUe c with ⟨h0,_⟩ | ⟨_,_,h1,h2⟩
  ·omega
  ·rw[if_neg h2,h1]
structure Sgn (g:Nat) (s:ByteArray) (w wr:World) (Eb i j:Nat) (T:DataW Unit×List UInt8) (t:DataW Unit) (m:Nat) (k:Int) (nm:ByteArray) (a:Option Addr) (ln cp:Nat):Prop where
 rat:RAt wr g s j
 pl:Pl s j
 signs:iY t (left s j)=T
 good:lC t
 lt:i<j
 wid:(subs t).length+i<=j
 kept:gX g w wr
 zero:wr.heap[w.heap.size]? = some (.cells #[.int .i64 0,.string ⟨#[]⟩,.slice none 0 0] 69 (0,0))
 var:wr.heap[Eb]? = some (.cells #[.int .i64 k,.string nm,.slice a ln cp] 69 (0,0))
 eb:w.heap.size<Eb
 ex:ExA (fun b=>w.heap.size<b/\b≠Eb) wr m t (.agg #[.int .i64 k,.string nm,.slice a ln cp])
theorem Sgn.step {g:Nat}{s:ByteArray}{w wr:World}{Eb i j:Nat}{T:DataW Unit×List UInt8}{t:DataW Unit}{m:Nat}{k:Int}{nm:ByteArray}{a:Option Addr}{ln cp:Nat}(h:Sgn g s w wr Eb i j T t m k nm a ln cp)(hgw:g<w.heap.size)(hsg:¬kS (pk s j)<0){W1 W2:World}(hO1:jW g wr W1)
  (hO2:jW g ((W1.alloc (.cells #[.int .i64 k,.string nm,.slice a ln cp] 69)).setRow Eb #[.int .i64 (4+kS (pk s j)),.string ⟨#[]⟩,.slice (some ⟨W1.heap.size,0,none⟩) 1 1]) W2)(hR:RAt W2 g s (skip s (j+1))) :
  Sgn g s w W2 Eb i (skip s (j+1)) T (node (4+kS (pk s j)) ⟨#[]⟩ [t]) (m+1) (4+kS (pk s j)) ⟨#[]⟩ (some ⟨W1.heap.size,0,none⟩) 1 1:=by
 obtain⟨hj,hst⟩:=gIo h.pl t hsg
 obtain⟨P2,q2,q3⟩:=Pl.skip (s:=s) (i:=j+1) oo
 have hlt:=h.lt
 have heb:=h.eb
 have hbe:Eb<wr.heap.size:=(zza.1 h.var).1
 have hs1:=hO1.size
 have hs2:W2.heap.size=W1.heap.size+1:=by rw[hO2.size];simp
 have hsg2:=gFl (pk s j)
 have hblk:∀b,b<wr.heap.size->b≠g->b≠Eb->W2.heap[b]? = wr.heap[b]? := fun b h1 h2 h3=>by
  rw[hO2.block b h2,setRow_other _ _ _ _ h3,zzf W1 _ b oo,hO1.block b h2]
 have hnew:W2.heap[W1.heap.size]? = some (.cells #[.int .i64 k,.string nm,.slice a ln cp] 69 (0,0)):=by
  rw[hO2.block _ oo,setRow_other _ _ _ _ oo];exact heap_alloc_new W1 _
 refine⟨hR,P2,by rw[<-hst];exact h.signs,lC.of (by intro h;omega),oo,by rw[iC,List.length_cons,List.length_nil];omega,?_,?_,?_,heb,?_⟩
 ·have hk:=h.kept
  have hks:=hk.size;exact⟨hO2.os.trans (hO1.os.trans hk.os),hO2.tape.trans (hO1.tape.trans hk.tape),hO2.output.trans (hO1.output.trans hk.output),oo,fun b hb hg=>(hblk b oo hg oo).trans (hk.block b hb hg)⟩
 ·exact(hblk _ (by have:=h.kept.size;omega) oo oo).trans h.zero
 ·rw[hO2.block _ oo]
  exact setRow_heap _ _ _ _ _ _ ((zzf W1 _ Eb oo).trans ((hO1.block _ oo).trans h.var))
 ·refine⟨_,_,_,1,1,[t],rfl,rfl,rfl,oo,.inr ⟨W1.heap.size,0,rfl,oo,⟨by have:=h.kept.size;omega,oo⟩,fun i x hx=>?_⟩⟩
  cases i with
  | zero=>
   (obtain rfl:t=x:=by simpa using hx);exact⟨k,nm,a,ln,cp,cell_of_row W2 _ 0 _ _ _ hnew,cell_of_row W2 _ 1 _ _ _ hnew,cell_of_row W2 _ 2 _ _ _ hnew,ExA.kept oo (fun b hb hA=>⟨hA,hblk b hb oo hA.2⟩) _ _ _ h.ex⟩
  | succ i=>simp at hx
end Go.Proofs.YtjkebndkeamijaaGreatDoor
/- Part: the reader's mG, where choices reads what stands in brackets: what it returns and leaves. -/
namespace Go.Proofs.YtjkebndkeamijaaGreatDoor
open Go.RowKit
theorem gSe (g:Nat)(s:ByteArray)(n:Nat)(hs:s.size<=200)(hCH:CH g s n)(i:Nat)(w:World)(hR:RAt w g s i)(hP:Pl s i)(hn:s.size - i<n+1) :
  Calls Tryz.prog 189 #[.pointer (some ⟨g,0,none⟩)] w fun e w' => gX g w w' /\ sF g s w.heap.size i (FR s (iB (gZ n) (left s i))) (DR s (iB (gZ n) (left s i))) e w' := by
 have hgl:=hR.lt
 have HG:Hid (g<w.heap.size/\s.size<=200):=⟨hgl,hs⟩
 have HB:Hid (∀W,RAt W g s i->Calls Tryz.prog 191 #[.pointer (some ⟨g,0,none⟩)] W fun e w' => gX g W w' /\ sF g s W.heap.size i (FR s (lZ (gZ n) (left s i))) (DR s (lZ (gZ n) (left s i))) e w'):=fun W h=>gTv g s n hs hCH i W h hP hn
 have HR0:Hid (∀o,RAt (w.alloc o) g s i):=fun o=>hR.alloc o
 clear hR hP hn hCH hs hgl
 go_enter Tryz.func189,Tryz.ntmps189
 go_wp2_with fail
 refine(HB.out _ (HR0.out _)).mono ?_
 rintro e1 W1 ⟨hK1,hE⟩
 have hgl:=HG.out.1
 have hz1:W1.heap[w.heap.size]? = some (.cells #[.int .i64 0,.string ⟨#[]⟩,.slice none 0 0] 69 (0,0)):=(hK1.block _ (by simp) oo).trans (heap_alloc_new w _)
 have hKW:gX g w W1:=((gX.refl g w).alloc _).trans hK1
 have hs1:w.heap.size<W1.heap.size:=(zza.1 hz1).1
 rcases hE with ⟨j,hRj,hF,rfl⟩ | ⟨j,t,m,r,hRj,hD,hG,hij,hlen,hX,rfl⟩
 ·have HZ:Hid (∀o,(W1.alloc o).heap[w.heap.size]? = some (.cells #[.int .i64 0,.string ⟨#[]⟩,.slice none 0 0] 69 (0,0))):=fun o=>(zzf W1 o _ hs1).trans hz1
  (have HF:Hid (∀o cs,gX g w ((W1.alloc o).setRow w.heap.size cs)/\RAt ((W1.alloc o).setRow w.heap.size cs) g s j):=fun o cs=>⟨(hKW.alloc o).setRow _ _ (zzb _),(hRj.alloc o).setRow _ _ oo⟩);have HF2:Hid (FR s (iB (gZ n) (left s i)) j):=⟨by rw[gIu,hF.1],hF.2⟩;clear hKW hRj hF hK1 hz1 hs1 hgl HB HR0;exact k39
 ·obtain⟨k,nm,a,ln,cp⟩:=r
  unfold jI at hX ⊢;simp only at hX ⊢;obtain⟨T,hT⟩:∃T,iY t (left s j)=T:=⟨_,rfl⟩;(have HT:Hid (iB (gZ n) (left s i)=(some T.1,T.2)):=by show _=_;rw[gIu,hD.1,<-hT]);have HS:Hid (Sgn g s w (W1.alloc (.cells #[.int .i64 k,.string nm,.slice a ln cp] 69)) W1.heap.size i j T t m k nm a ln cp):=⟨hRj.alloc _,hD.2,hT,hG,hij,hlen,hKW.alloc _,(zzf W1 _ _ hs1).trans hz1,heap_alloc_new W1 _,hs1,ExA.kept (by simp) (fun b hb hA=>⟨by simp only[World.size_alloc] at hA;omega,zzf W1 _ b hb⟩) _ _ _ hX⟩;clear hX hD hG hij hlen hRj hKW hK1 hz1 hs1 hgl HB HR0 hT;obtain⟨Eb,hEb⟩:∃Eb,W1.heap.size=Eb:=⟨_,rfl⟩;go_wp2;rw[hEb] at HS;clear hEb
  go_loopg [] (s.size+1) (fun f w' => ∃j t m k nm a ln cp,s.size - j<f/\Sgn g s w w' Eb i j T t m k nm a ln cp)
  case atStart=>exact⟨j,t,m,k,nm,a,ln,cp,oo,HS.out⟩
  case round=>
   clear HS;obtain⟨j,t,m,k,nm,a,ln,cp,hf,hH⟩:=hrel;have HPK:Hid (Calls Tryz.prog 180 #[.pointer (some ⟨g,0,none⟩)] wr fun r w' => r=.returned (.int .u8 (pk s j))/\RAt w' g s j/\jW g wr w'):=pV g s j wr hH.rat hH.pl.1 (by have:=HG.out.2;omega);have hpr:=gNz hH.pl.1;(have HIX:Hid (∀W,Calls Tryz.prog 192 #[.string ⟨#[42,43,63]⟩,.int .u8 (pk s j)] W fun e w' => e=.returned (.int .i64 (kS (pk s j)))/\w' = W):=fun W=>gEm (pk s j) hpr.1 hpr.2 W);have hsr:=gFl (pk s j)
   by_cases hsg:kS (pk s j)<0
   ·have hst:=gVt hH.pl t hsg
    have hT:=hH.signs;rw[hst] at hT;have HD:Hid (DR s (iB (gZ n) (left s i)) t j):=⟨by rw[HT.out,<-hT],hH.pl⟩;have HH:Hid (Sgn g s w wr Eb i j T t m k nm a ln cp):=hH;obtain⟨C,hC⟩:∃C,pk s j=C:=⟨_,rfl⟩;rw[hC] at HPK HIX hsg;clear hst hT hH hC hpr hsr HT;obtain⟨I,hI⟩:∃I,kS C=I:=⟨_,rfl⟩;rw[hI] at HIX hsg;clear hI;(go_wp2_with fail);refine HPK.out.mono ?_;rintro e3 W3 ⟨rfl,hR3,hO3⟩;(go_wp2_with fail);refine(HIX.out _).mono ?_;rintro e4 W4 ⟨rfl,hW4⟩;rw[hW4];clear hW4;have hgl:=HG.out.1;have heb:=HH.out.eb;have hv:=HH.out.var;have he3:W3.heap[Eb]? = some (.cells #[.int .i64 k,.string nm,.slice a ln cp] 69 (0,0)):=(hO3.block _ oo).trans hv;have c0:W3.cell? ⟨Eb,0,none⟩=some (.int .i64 k):=cell_of_row W3 Eb 0 _ _ _ he3;have c1:W3.cell? ⟨Eb,1,none⟩=some (.string nm):=cell_of_row W3 Eb 1 _ _ _ he3;have c2:W3.cell? ⟨Eb,2,none⟩=some (.slice a ln cp):=cell_of_row W3 Eb 2 _ _ _ he3;have HZ:Hid (W3.heap[w.heap.size]? = some (.cells #[.int .i64 0,.string ⟨#[]⟩,.slice none 0 0] 69 (0,0))):=(hO3.block _ oo).trans HH.out.zero;(have HF:Hid (∀cs,gX g w (W3.setRow w.heap.size cs)/\RAt (W3.setRow w.heap.size cs) g s j/\ExA (fun b=>w.heap.size<=b) (W3.setRow w.heap.size cs) m t (.agg #[.int .i64 k,.string nm,.slice a ln cp])):=fun cs=>⟨(HH.out.kept.trans hO3.kept).setRow _ _ (zzb _),hR3.setRow _ _ oo,ExA.kept (by rw[size_setRow,hO3.size];omega) (fun b hb hA=>⟨oo,(setRow_other _ _ _ _ oo).trans (hO3.block b oo)⟩) _ _ _ HH.out.ex⟩);clear hgl heb hv he3 hR3 hO3 HPK HIX;(go_wp2_with (refine wpList_store_row rfl 69 _ _ rfl w.heap.size #[.int .i64 k,.string nm,.slice a ln cp] rfl rfl 69 _ HZ.out gE rfl (jF _ _ _ _ _) ?_));refine bodyPost_ret (gU rfl _ _ w.heap.size 69 #[.int .i64 k,.string nm,.slice a ln cp] (0,0) _ rfl (setRow_heap _ _ _ _ _ _ HZ.out) Tryz.underlying69 rfl gE) rfl ?_;exact⟨(HF.out _).1,.inr ⟨j,t,m,(k,nm,a,ln,cp),(HF.out _).2.1,HD.out,HH.out.good,HH.out.lt,HH.out.wid,(HF.out _).2.2,rfl⟩⟩
   ·obtain⟨hjl,-⟩:=gIo hH.pl t hsg
    obtain⟨P2,q2,q3⟩:=Pl.skip (s:=s) (i:=j+1) oo;(have HP2:Hid (∀W,RAt W g s j->Calls Tryz.prog 171 #[.pointer (some ⟨g,0,none⟩),.int .i64 1] W fun r w' => r=.returned (.tuple #[])/\RAt w' g s (skip s (j+1))/\jW g W w'):=fun W h=>qX g s j 1 W h oo (by have:=HG.out.2;omega));have HH:Hid (Sgn g s w wr Eb i j T t m k nm a ln cp):=hH;have HN:Hid (s.size - skip s (j+1)<gk - 1/\gk - 1<gk):=⟨by have:=P2.1;omega,oo⟩;(have HST:Hid (∀W1 W2,jW g wr W1->jW g ((W1.alloc (.cells #[.int .i64 k,.string nm,.slice a ln cp] 69)).setRow Eb #[.int .i64 (4+kS (pk s j)),.string ⟨#[]⟩,.slice (some ⟨W1.heap.size,0,none⟩) 1 1]) W2->RAt W2 g s (skip s (j+1))->Sgn g s w W2 Eb i (skip s (j+1)) T (node (4+kS (pk s j)) ⟨#[]⟩ [t]) (m+1) (4+kS (pk s j)) ⟨#[]⟩ (some ⟨W1.heap.size,0,none⟩) 1 1):=fun W1 W2 h1 h2 h3=>hH.step HG.out.1 hsg h1 h2 h3);clear hjl P2 q2 q3 hH hpr;generalize kS (pk s j)=I at *;generalize pk s j=C at *;(have hwr:IntKind.i64.wrap (4+I)=4+I:=by rw[IntKind.wrap_i64];omega);(go_wp2_with fail);refine HPK.out.mono ?_;rintro e3 W3 ⟨rfl,hR3,hO3⟩;(go_wp2_with fail);refine(HIX.out _).mono ?_;rintro e4 W4 ⟨rfl,hW4⟩;rw[hW4];clear hW4;have hgl:=HG.out.1;have heb:=HH.out.eb;have hv:=HH.out.var;have hbe:Eb<wr.heap.size:=(zza.1 hv).1;have he3:W3.heap[Eb]? = some (.cells #[.int .i64 k,.string nm,.slice a ln cp] 69 (0,0)):=(hO3.block _ oo).trans hv;have c0:W3.cell? ⟨Eb,0,none⟩=some (.int .i64 k):=cell_of_row W3 Eb 0 _ _ _ he3;have c1:W3.cell? ⟨Eb,1,none⟩=some (.string nm):=cell_of_row W3 Eb 1 _ _ _ he3;have c2:W3.cell? ⟨Eb,2,none⟩=some (.slice a ln cp):=cell_of_row W3 Eb 2 _ _ _ he3;(have HE:Hid (∀o,(W3.alloc o).heap[Eb]? = some (.cells #[.int .i64 k,.string nm,.slice a ln cp] 69 (0,0))):=fun o=>(zzf W3 o Eb (by rw[hO3.size];exact hbe)).trans he3);(have HR2:Hid (∀o cs,RAt ((W3.alloc o).setRow Eb cs) g s j):=fun o cs=>(hR3.alloc o).setRow _ _ oo);have HO3:Hid (jW g wr W3):=hO3;clear hgl heb hv hbe he3 hR3 hO3 HPK HIX;(go_wp2_with (refine wpList_store_row rfl 69 _ _ rfl Eb #[.int .i64 (4+I),.string ⟨#[]⟩,.slice (some ⟨W3.heap.size,0,none⟩) 1 1] rfl rfl 69 _ (HE.out _) gE rfl (jF _ _ _ _ _) ?_));refine(HP2.out _ (HR2.out _ _)).mono ?_;rintro e5 W5 ⟨rfl,hR5,hO5⟩;have HS5:Hid (Sgn g s w W5 Eb i (skip s (j+1)) T (node (4+I) ⟨#[]⟩ [t]) (m+1) (4+I) ⟨#[]⟩ (some ⟨W3.heap.size,0,none⟩) 1 1):=HST.out W3 W5 HO3.out hO5 hR5;clear hR5 hO5 HST HE HR2 HP2 HH;go_wp2
    go_roundg (gk - 1)
    case measure=>exact HN.out.2
    case rel=>exact⟨_,_,_,_,_,_,_,_,HN.out.1,HS5.out⟩
end Go.Proofs.YtjkebndkeamijaaGreatDoor
/- RowS: expr.row at the two functions that it is called with: what it returns and leaves. -/
namespace Go.Proofs.YtjkebndkeamijaaGreatDoor
open Go.RowKit
theorem k27{p:Prop}(h:p:=by
  clear hX hH hD hl0 hij hGt hwd hKw hRw hc HN HM HI HS HL;(go_wp2_with (refine wpList_store_row rfl 69 _ _ rfl w.heap.size #[.int .i64 k,.string nm,.slice a ln cp] rfl rfl 69 _ HC.out gE rfl (jF _ _ _ _ _) ?_));refine bodyPost_ret (gU rfl _ _ w.heap.size 69 #[.int .i64 k,.string nm,.slice a ln cp] (0,0) _ rfl (setRow_heap _ _ _ _ _ _ HC.out) Tryz.underlying69 rfl gE) rfl ?_;obtain⟨d1,d2,d3,d4,d5⟩:=HD.out;exact⟨(HT.out _).1,.inr ⟨j,_,m,(k,nm,a,ln,cp),(HT.out _).2,⟨l,d2,d1,rfl⟩,d4,d3,d5,HE.out _,rfl⟩⟩
  ):p:=h
theorem k14{p:Prop}(h:p:=by
  (have HZ:Hid (∀o,(W1.alloc o).heap[w.heap.size]? = some (.cells #[.int .i64 0,.string ⟨#[]⟩,.slice none 0 0] 69 (0,0))):=fun o=>(zzf W1 o _ hw1).trans hc1);(have HF:Hid (∀o cs,gX g w ((W1.alloc o).setRow w.heap.size cs)/\RAt ((W1.alloc o).setRow w.heap.size cs) g s j):=fun o cs=>⟨(hKW.alloc o).setRow _ _ (zzb _),(hRj.alloc o).setRow _ _ (by have:=HG.out;omega)⟩);have HF2:Hid (F j):=hF;clear hKW hRj hF hH hK1 hc hc1 hI HN HM HI HS HL;unfold zE uL;(go_wp2_with (refine wpList_store_row rfl 69 _ _ rfl w.heap.size #[.int .i64 0,.string ⟨#[]⟩,.slice none 0 0] rfl rfl 69 _ (HZ.out _) gE rfl (jF _ _ _ _ _) ?_));refine bodyPost_ret (gU rfl _ _ w.heap.size 69 #[.int .i64 0,.string ⟨#[]⟩,.slice none 0 0] (0,0) _ rfl (setRow_heap _ _ _ _ _ _ (HZ.out _)) Tryz.underlying69 rfl gE) rfl ?_;exact⟨(HF.out _ _).1,.inl ⟨j,(HF.out _ _).2,HF2.out,rfl⟩⟩
  ):p:=h
theorem k07{p:Prop}(h:p:=by
  have HC:Hid (W3.heap[w.heap.size]? = some (.cells #[.int .i64 0,.string ⟨#[]⟩,.slice none 0 0] 69 (0,0))):=hc3;have HIJ:Hid (i' < j/\i<=i'):=⟨hij,oo⟩;clear hH3 hc3 hk3 hX hM hRj hK1 hKW hc1 hc hH hI hG hlen hij hlei;(go_wp2_with (refine pG rfl _ _ 67 rfl _ _ v' W3 rfl rfl hrun ?_));(go_wp2_with fail);refine HM2.mono ?_;rintro e W4 ⟨hK4,hE⟩;have hc4:W4.heap[w.heap.size]? = some (.cells #[.int .i64 0,.string ⟨#[]⟩,.slice none 0 0] 69 (0,0)):=(hK4.block _ (zza.1 HC.out).1 (by have:=HG.out;omega)).trans HC.out;rcases hE with ⟨i2,f2,hf2,hji,hR4,hI4,rfl⟩ | ⟨hR4,hD4,rfl⟩
  ·have HR:Hid (Inv f2 (l++[t]) i2/\(∃n,oR 2 g s w W4 i i2 (l++[t]) v' n)/\W4.heap[w.heap.size]? = some (.cells #[.int .i64 0,.string ⟨#[]⟩,.slice none 0 0] 69 (0,0))/\f2+1<gk):=⟨hI4,⟨_,HH.out.next HG.out hK4 hR4 hji⟩,hc4,by have:gk=gk.pred+1:=(Nat.succ_pred_eq_of_pos hg0).symm;omega⟩
   clear hI4 hR4 hc4 HH HC hK4;go_wp2
   go_roundg (f2+1)
   case measure=>exact HR.out.2.2.2
   case rel=>exact .inl (by obtain⟨h1,⟨n2,h2⟩,h3,_⟩:=HR.out;exact⟨i2,l++[t],n2,rfl,h1,oo,h2,h3⟩)
  ·have HR:Hid (D (l++[t]) j/\(∃n,oR 2 g s w W4 i j (l++[t]) v' n)/\W4.heap[w.heap.size]? = some (.cells #[.int .i64 0,.string ⟨#[]⟩,.slice none 0 0] 69 (0,0))/\0<gk/\i<j):=⟨hD4,⟨_,HH.out.next HG.out hK4 hR4 (zzb _)⟩,hc4,hg0,by have:=HIJ.out;omega⟩
   clear hD4 hR4 hc4 HH HC hK4;go_wp2
   go_roundg 0
   case measure=>exact HR.out.2.2.2.1
   case rel=>exact .inr (by obtain⟨h1,⟨n2,h2⟩,h3,_,h4⟩:=HR.out;exact⟨j,l++[t],n2,rfl,h1,by simp,h4,h2,h3⟩)
  ):p:=h
theorem gNl (g:Nat)(s:ByteArray)(_hs:s.size<=200)(Inv Mid:Nat->List (DataW Unit)->Nat->Prop)(F:Nat->Prop)(D:List (DataW Unit)->Nat->Prop)
  (Hn:∀f l i W,Inv f l i->RAt W g s i->Calls Tryz.prog 189 #[.pointer (some ⟨g,0,none⟩)] W fun e W' => gX g W W' /\ sF g s W.heap.size i F (fun t j=>Mid f (l++[t]) j) e W')
  (Hm:∀f l j W,Mid f l j->RAt W g s j->Calls Tryz.prog 190 #[.pointer (some ⟨g,0,none⟩)] W fun e W' => gX g W W' /\ ((∃i f', f' < f/\j<=i/\RAt W' g s i/\Inv f' l i/\e=.returned (.bool true))\/(RAt W' g s j/\D l j/\e=.returned (.bool false))))
  (w:World) (f i:Nat) (h0:Inv f [] i) (hR:RAt w g s i) (hin:∀f l i,Inv f l i->i<=200) (hmi:∀f l i,Mid f l i->i<=200) (hdi:∀l i,D l i->i<=200) :
  Calls Tryz.prog 181 #[.int .i64 2,.func (.func 189) #[.pointer (some ⟨g,0,none⟩)] #[],.func (.func 190) #[.pointer (some ⟨g,0,none⟩)] #[]] w fun e w' => gX g w w' /\ sF g s w.heap.size i F (fun t j=>∃l,l≠[]/\D l j/\t=jV 2 l) e w' := by
 have HN:Hid (∀f l i W,Inv f l i->RAt W g s i->Calls Tryz.prog 189 #[.pointer (some ⟨g,0,none⟩)] W fun e W' => gX g W W' /\ sF g s W.heap.size i F (fun t j=>Mid f (l++[t]) j) e W'):=Hn
 have HM:Hid (∀f l j W,Mid f l j->RAt W g s j->Calls Tryz.prog 190 #[.pointer (some ⟨g,0,none⟩)] W fun e W' => gX g W W' /\ ((∃i f', f' < f/\j<=i/\RAt W' g s i/\Inv f' l i/\e=.returned (.bool true))\/(RAt W' g s j/\D l j/\e=.returned (.bool false)))):=Hm
 have HS:Hid (∀o,oR 2 g s w (w.alloc o) i i [] (.slice none 0 0) 0):=fun o=>oR.start 2 hR o
 have HI:Hid (Inv f [] i):=h0
 have HG:Hid (g<w.heap.size):=hR.lt
 have HL:Hid ((∀f l i,Inv f l i->i<=200)/\(∀f l i,Mid f l i->i<=200)/\(∀l i,D l i->i<=200)):=⟨hin,hmi,hdi⟩
 clear Hn Hm h0 hR hin hmi hdi
 go_enter Tryz.func181,Tryz.ntmps181
 go_wp2
 go_loopg [8,9] (f+1) (fun gk v u w' => (∃i' l n,u=.bool true/\Inv gk.pred l i' /\ 0<gk/\oR 2 g s w w' i i' l v n/\w'.heap[w.heap.size]? = some (.cells #[.int .i64 0,.string ⟨#[]⟩,.slice none 0 0] 69 (0,0)))\/(∃j l n,u=.bool false/\D l j/\l≠[]/\i<j/\oR 2 g s w w' i j l v n/\w'.heap[w.heap.size]? = some (.cells #[.int .i64 0,.string ⟨#[]⟩,.slice none 0 0] 69 (0,0))))
 case atStart=>exact .inl ⟨i,[],0,rfl,HI.out,oo,HS.out _,heap_alloc_new w _⟩
 case round=>
  rcases hrel with ⟨i', l,n,hu,hI,hg0,hH,hc⟩ | ⟨j,l,n,hu,hD,hl0,hij,hH,hc⟩
  ·subst hu
   have HN2:=HN.out _ _ _ wr hI hH.rat;have hwl:w.heap.size<wr.heap.size:=(zza.1 hc).1;have hlei:=hH.lei;(go_wp2_with fail);refine HN2.mono ?_;rintro e W1 ⟨hK1,hE⟩;have hc1:W1.heap[w.heap.size]? = some (.cells #[.int .i64 0,.string ⟨#[]⟩,.slice none 0 0] 69 (0,0)):=(hK1.block _ hwl (by have:=HG.out;omega)).trans hc;have hKW:gX g w W1:=hH.kept.trans hK1;have hw1:w.heap.size<W1.heap.size:=(zza.1 hc1).1;clear HN2;rcases hE with ⟨j,hRj,hF,rfl⟩ | ⟨j,t,m,r,hRj,hM,hG,hij,hlen,hX,rfl⟩
   ·exact k14
   ·obtain⟨k,nm,a,ln,cp⟩:=r
    unfold jI at hX ⊢;simp only at hX ⊢;have hj:=HL.out.2.1 _ _ _ hM
    by_cases hk:k=2
    ·subst hk
     obtain⟨v', W3,hrun,hH3,hk3⟩:=hH.many oo HG.out hK1 hRj hG hX rfl hlen hj (.cells #[.int .i64 2,.string nm,.slice a ln cp] 69);have hc3:W3.heap[w.heap.size]? = some (.cells #[.int .i64 0,.string ⟨#[]⟩,.slice none 0 0] 69 (0,0)):=(hk3 _ hw1 hH.apart).trans hc1;have HM2:=HM.out _ _ _ W3 hM hH3.rat;have HH:Hid (oR 2 g s w W3 i j (l++[t]) v' (n+ln)):=hH3;exact k07
    ·have hkb:(k==2)=false:=by rw[beq_eq_false_iff_ne];exact hk
     obtain⟨v', W3,hrun,hH3,hk3⟩:=hH.one HG.out hK1 hRj hG hX hk hij hlen hj (.cells #[.int .i64 k,.string nm,.slice a ln cp] 69);simp only[World.size_alloc] at hrun;have hc3:W3.heap[w.heap.size]? = some (.cells #[.int .i64 0,.string ⟨#[]⟩,.slice none 0 0] 69 (0,0)):=(hk3 _ hw1 hH.apart).trans hc1;have HM2:=HM.out _ _ _ W3 hM hH3.rat;have HH:Hid (oR 2 g s w W3 i j (l++[t]) v' (n+1)):=hH3;exact k07
  ·subst hu
   obtain⟨hGt,hwd,hcase⟩:=hH.tree oo hl0 (HL.out.2.2 _ _ hD);have hKw:=hH.kept;have hRw:=hH.rat;(have HT:Hid (∀cs,gX g w (wr.setRow w.heap.size cs)/\RAt (wr.setRow w.heap.size cs) g s j):=fun cs=>⟨hKw.setRow _ _ (zzb _),hRw.setRow _ _ (by have:=HG.out;omega)⟩);have HC:Hid (wr.heap[w.heap.size]? = some (.cells #[.int .i64 0,.string ⟨#[]⟩,.slice none 0 0] 69 (0,0))):=hc;have HD:Hid (D l j/\l≠[]/\i<j/\lC (jV 2 l)/\(subs (jV 2 l)).length+i<=j):=⟨hD,hl0,hij,hGt,hwd⟩;rcases hcase with ⟨h1,m,b,k,nm,a,ln,cp,cap,rfl,c0,c1,c2,hX⟩ | ⟨h1,m,a,cap,rfl,hX⟩
   ·subst h1
    (have HE:Hid (∀cs,ExA (fun b=>w.heap.size<=b) (wr.setRow w.heap.size cs) m (jV 2 l) (.agg #[.int .i64 k,.string nm,.slice a ln cp])):=fun cs=>ExA.kept (by simp) (fun b hb hA=>⟨oo,setRow_other _ _ _ _ oo⟩) _ _ _ hX);exact k27
   ·have hn1:((n:Int)==1)=false:=by rw[beq_eq_false_iff_ne];omega
    (have HE:Hid (∀cs,ExA (fun b=>w.heap.size<=b) (wr.setRow w.heap.size cs) m (jV 2 l) (.agg #[.int .i64 2,.string ⟨#[]⟩,.slice a n cap])):=fun cs=>ExA.kept (by simp) (fun b hb hA=>⟨oo,setRow_other _ _ _ _ oo⟩) _ _ _ hX);clear hX hH hD hl0 hij hGt hwd hKw hRw hc HN HM HI HS HL;(go_wp2_with (refine wpList_store_row rfl 69 _ _ rfl w.heap.size #[.int .i64 2,.string ⟨#[]⟩,.slice a n cap] rfl rfl 69 _ HC.out gE rfl (jF _ _ _ _ _) ?_));refine bodyPost_ret (gU rfl _ _ w.heap.size 69 #[.int .i64 2,.string ⟨#[]⟩,.slice a n cap] (0,0) _ rfl (setRow_heap _ _ _ _ _ _ HC.out) Tryz.underlying69 rfl gE) rfl ?_;obtain⟨d1,d2,d3,d4,d5⟩:=HD.out;exact⟨(HT.out _).1,.inr ⟨j,_,m,(2,⟨#[]⟩,a,n,cap),(HT.out _).2,⟨l,d2,d1,rfl⟩,d4,d3,d5,HE.out _,rfl⟩⟩
end Go.Proofs.YtjkebndkeamijaaGreatDoor
/- RowA: expr.row at the two functions that it is called with: what it returns and leaves. -/
namespace Go.Proofs.YtjkebndkeamijaaGreatDoor
open Go.RowKit
theorem k08{p:Prop}(h:p:=by
  have HC:Hid (W3.heap[w.heap.size]? = some (.cells #[.int .i64 0,.string ⟨#[]⟩,.slice none 0 0] 69 (0,0))):=hc3;have HIJ:Hid (i' < j/\i<=i'):=⟨hij,oo⟩;clear hH3 hc3 hk3 hX hM hRj hK1 hKW hc1 hc hH hI hG hlen hij hlei;(go_wp2_with (refine pG rfl _ _ 67 rfl _ _ v' W3 rfl rfl hrun ?_));(go_wp2_with fail);refine HM2.mono ?_;rintro e W4 ⟨hK4,hE⟩;have hc4:W4.heap[w.heap.size]? = some (.cells #[.int .i64 0,.string ⟨#[]⟩,.slice none 0 0] 69 (0,0)):=(hK4.block _ (zza.1 HC.out).1 (by have:=HG.out;omega)).trans HC.out;rcases hE with ⟨i2,f2,hf2,hji,hR4,hI4,rfl⟩ | ⟨hR4,hD4,rfl⟩
  ·have HR:Hid (Inv f2 (l++[t]) i2/\(∃n,oR 3 g s w W4 i i2 (l++[t]) v' n)/\W4.heap[w.heap.size]? = some (.cells #[.int .i64 0,.string ⟨#[]⟩,.slice none 0 0] 69 (0,0))/\f2+1<gk):=⟨hI4,⟨_,HH.out.next HG.out hK4 hR4 hji⟩,hc4,by have:gk=gk.pred+1:=(Nat.succ_pred_eq_of_pos hg0).symm;omega⟩
   clear hI4 hR4 hc4 HH HC hK4;go_wp2
   go_roundg (f2+1)
   case measure=>exact HR.out.2.2.2
   case rel=>exact .inl (by obtain⟨h1,⟨n2,h2⟩,h3,_⟩:=HR.out;exact⟨i2,l++[t],n2,rfl,h1,oo,h2,h3⟩)
  ·have HR:Hid (D (l++[t]) j/\(∃n,oR 3 g s w W4 i j (l++[t]) v' n)/\W4.heap[w.heap.size]? = some (.cells #[.int .i64 0,.string ⟨#[]⟩,.slice none 0 0] 69 (0,0))/\0<gk/\i<j):=⟨hD4,⟨_,HH.out.next HG.out hK4 hR4 (zzb _)⟩,hc4,hg0,by have:=HIJ.out;omega⟩
   clear hD4 hR4 hc4 HH HC hK4;go_wp2
   go_roundg 0
   case measure=>exact HR.out.2.2.2.1
   case rel=>exact .inr (by obtain⟨h1,⟨n2,h2⟩,h3,_,h4⟩:=HR.out;exact⟨j,l++[t],n2,rfl,h1,by simp,h4,h2,h3⟩)
  ):p:=h
theorem gNm (g:Nat)(s:ByteArray)(_hs:s.size<=200)(Inv Mid:Nat->List (DataW Unit)->Nat->Prop)(F:Nat->Prop)(D:List (DataW Unit)->Nat->Prop)
  (Hn:∀f l i W,Inv f l i->RAt W g s i->Calls Tryz.prog 182 #[.pointer (some ⟨g,0,none⟩)] W fun e W' => gX g W W' /\ sF g s W.heap.size i F (fun t j=>Mid f (l++[t]) j) e W')
  (Hm:∀f l j W,Mid f l j->RAt W g s j->Calls Tryz.prog 183 #[.pointer (some ⟨g,0,none⟩)] W fun e W' => gX g W W' /\ ((∃i f', f' < f/\j<=i/\RAt W' g s i/\Inv f' l i/\e=.returned (.bool true))\/(RAt W' g s j/\D l j/\e=.returned (.bool false))))
  (w:World) (f i:Nat) (h0:Inv f [] i) (hR:RAt w g s i) (hin:∀f l i,Inv f l i->i<=200) (hmi:∀f l i,Mid f l i->i<=200) (hdi:∀l i,D l i->i<=200) :
  Calls Tryz.prog 181 #[.int .i64 3,.func (.func 182) #[.pointer (some ⟨g,0,none⟩)] #[],.func (.func 183) #[.pointer (some ⟨g,0,none⟩)] #[]] w fun e w' => gX g w w' /\ sF g s w.heap.size i F (fun t j=>∃l,l≠[]/\D l j/\t=jV 3 l) e w' := by
 have HN:Hid (∀f l i W,Inv f l i->RAt W g s i->Calls Tryz.prog 182 #[.pointer (some ⟨g,0,none⟩)] W fun e W' => gX g W W' /\ sF g s W.heap.size i F (fun t j=>Mid f (l++[t]) j) e W'):=Hn
 have HM:Hid (∀f l j W,Mid f l j->RAt W g s j->Calls Tryz.prog 183 #[.pointer (some ⟨g,0,none⟩)] W fun e W' => gX g W W' /\ ((∃i f', f' < f/\j<=i/\RAt W' g s i/\Inv f' l i/\e=.returned (.bool true))\/(RAt W' g s j/\D l j/\e=.returned (.bool false)))):=Hm
 have HS:Hid (∀o,oR 3 g s w (w.alloc o) i i [] (.slice none 0 0) 0):=fun o=>oR.start 3 hR o
 have HI:Hid (Inv f [] i):=h0
 have HG:Hid (g<w.heap.size):=hR.lt
 have HL:Hid ((∀f l i,Inv f l i->i<=200)/\(∀f l i,Mid f l i->i<=200)/\(∀l i,D l i->i<=200)):=⟨hin,hmi,hdi⟩
 clear Hn Hm h0 hR hin hmi hdi
 go_enter Tryz.func181,Tryz.ntmps181
 go_wp2
 go_loopg [8,9] (f+1) (fun gk v u w' => (∃i' l n,u=.bool true/\Inv gk.pred l i' /\ 0<gk/\oR 3 g s w w' i i' l v n/\w'.heap[w.heap.size]? = some (.cells #[.int .i64 0,.string ⟨#[]⟩,.slice none 0 0] 69 (0,0)))\/(∃j l n,u=.bool false/\D l j/\l≠[]/\i<j/\oR 3 g s w w' i j l v n/\w'.heap[w.heap.size]? = some (.cells #[.int .i64 0,.string ⟨#[]⟩,.slice none 0 0] 69 (0,0))))
 case atStart=>exact .inl ⟨i,[],0,rfl,HI.out,oo,HS.out _,heap_alloc_new w _⟩
 case round=>
  rcases hrel with ⟨i', l,n,hu,hI,hg0,hH,hc⟩ | ⟨j,l,n,hu,hD,hl0,hij,hH,hc⟩
  ·subst hu
   have HN2:=HN.out _ _ _ wr hI hH.rat;have hwl:w.heap.size<wr.heap.size:=(zza.1 hc).1;have hlei:=hH.lei;(go_wp2_with fail);refine HN2.mono ?_;rintro e W1 ⟨hK1,hE⟩;have hc1:W1.heap[w.heap.size]? = some (.cells #[.int .i64 0,.string ⟨#[]⟩,.slice none 0 0] 69 (0,0)):=(hK1.block _ hwl (by have:=HG.out;omega)).trans hc;have hKW:gX g w W1:=hH.kept.trans hK1;have hw1:w.heap.size<W1.heap.size:=(zza.1 hc1).1;clear HN2;rcases hE with ⟨j,hRj,hF,rfl⟩ | ⟨j,t,m,r,hRj,hM,hG,hij,hlen,hX,rfl⟩
   ·exact k14
   ·obtain⟨k,nm,a,ln,cp⟩:=r
    unfold jI at hX ⊢;simp only at hX ⊢;have hj:=HL.out.2.1 _ _ _ hM
    by_cases hk:k=3
    ·subst hk
     obtain⟨v', W3,hrun,hH3,hk3⟩:=hH.many oo HG.out hK1 hRj hG hX rfl hlen hj (.cells #[.int .i64 3,.string nm,.slice a ln cp] 69);have hc3:W3.heap[w.heap.size]? = some (.cells #[.int .i64 0,.string ⟨#[]⟩,.slice none 0 0] 69 (0,0)):=(hk3 _ hw1 hH.apart).trans hc1;have HM2:=HM.out _ _ _ W3 hM hH3.rat;have HH:Hid (oR 3 g s w W3 i j (l++[t]) v' (n+ln)):=hH3;exact k08
    ·have hkb:(k==3)=false:=by rw[beq_eq_false_iff_ne];exact hk
     obtain⟨v', W3,hrun,hH3,hk3⟩:=hH.one HG.out hK1 hRj hG hX hk hij hlen hj (.cells #[.int .i64 k,.string nm,.slice a ln cp] 69);simp only[World.size_alloc] at hrun;have hc3:W3.heap[w.heap.size]? = some (.cells #[.int .i64 0,.string ⟨#[]⟩,.slice none 0 0] 69 (0,0)):=(hk3 _ hw1 hH.apart).trans hc1;have HM2:=HM.out _ _ _ W3 hM hH3.rat;have HH:Hid (oR 3 g s w W3 i j (l++[t]) v' (n+1)):=hH3;exact k08
  ·subst hu
   obtain⟨hGt,hwd,hcase⟩:=hH.tree oo hl0 (HL.out.2.2 _ _ hD);have hKw:=hH.kept;have hRw:=hH.rat;(have HT:Hid (∀cs,gX g w (wr.setRow w.heap.size cs)/\RAt (wr.setRow w.heap.size cs) g s j):=fun cs=>⟨hKw.setRow _ _ (zzb _),hRw.setRow _ _ (by have:=HG.out;omega)⟩);have HC:Hid (wr.heap[w.heap.size]? = some (.cells #[.int .i64 0,.string ⟨#[]⟩,.slice none 0 0] 69 (0,0))):=hc;have HD:Hid (D l j/\l≠[]/\i<j/\lC (jV 3 l)/\(subs (jV 3 l)).length+i<=j):=⟨hD,hl0,hij,hGt,hwd⟩;rcases hcase with ⟨h1,m,b,k,nm,a,ln,cp,cap,rfl,c0,c1,c2,hX⟩ | ⟨h1,m,a,cap,rfl,hX⟩
   ·subst h1
    (have HE:Hid (∀cs,ExA (fun b=>w.heap.size<=b) (wr.setRow w.heap.size cs) m (jV 3 l) (.agg #[.int .i64 k,.string nm,.slice a ln cp])):=fun cs=>ExA.kept (by simp) (fun b hb hA=>⟨oo,setRow_other _ _ _ _ oo⟩) _ _ _ hX);exact k27
   ·have hn1:((n:Int)==1)=false:=by rw[beq_eq_false_iff_ne];omega
    (have HE:Hid (∀cs,ExA (fun b=>w.heap.size<=b) (wr.setRow w.heap.size cs) m (jV 3 l) (.agg #[.int .i64 3,.string ⟨#[]⟩,.slice a n cap])):=fun cs=>ExA.kept (by simp) (fun b hb hA=>⟨oo,setRow_other _ _ _ _ oo⟩) _ _ _ hX);clear hX hH hD hl0 hij hGt hwd hKw hRw hc HN HM HI HS HL;(go_wp2_with (refine wpList_store_row rfl 69 _ _ rfl w.heap.size #[.int .i64 3,.string ⟨#[]⟩,.slice a n cap] rfl rfl 69 _ HC.out gE rfl (jF _ _ _ _ _) ?_));refine bodyPost_ret (gU rfl _ _ w.heap.size 69 #[.int .i64 3,.string ⟨#[]⟩,.slice a n cap] (0,0) _ rfl (setRow_heap _ _ _ _ _ _ HC.out) Tryz.underlying69 rfl gE) rfl ?_;obtain⟨d1,d2,d3,d4,d5⟩:=HD.out;exact⟨(HT.out _).1,.inr ⟨j,_,m,(3,⟨#[]⟩,a,n,cap),(HT.out _).2,⟨l,d2,d1,rfl⟩,d4,d3,d5,HE.out _,rfl⟩⟩
end Go.Proofs.YtjkebndkeamijaaGreatDoor
/- Seq: the reader's parts and choices: what they return and leave, at every place. -/
namespace Go.Proofs.YtjkebndkeamijaaGreatDoor
open Go.RowKit
theorem sF.mono {g:Nat}{s:ByteArray}{lo lo' i:Nat}{F F' : Nat->Prop}{D D' : DataW Unit->Nat->Prop}{e:Ending}{w' : World}(h:sF g s lo i F D e w')(hlo:lo' <= lo)(hF:∀j,F j->F' j)(hD:∀t j,i<j->D t j->D' t j):sF g s lo' i F' D' e w' := by
 rcases h with ⟨j,h1,h2,h3⟩ | ⟨j,t,m,r,h1,h2,h3,h4,h5,h6,h7⟩
 ·exact .inl ⟨j,h1,hF j h2,h3⟩
 ·exact .inr ⟨j,t,m,r,h1,hD t j h4 h2,h3,h4,h5,h6.mono fun b _ hA=>by omega,h7⟩
theorem k129{p:Prop}(h:p:=by
  rintro e w' ⟨h1,h2⟩;exact⟨h1,h2.mono (zzb _) (fun j h=>h) (fun t j _ h=>by obtain⟨l,_,h,rfl⟩:=h;exact h)⟩
  ):p:=h
theorem gWp (g:Nat)(s:ByteArray)(n:Nat)(hs:s.size<=200)(hCH:CH g s n)(i:Nat)(w:World)(hR:RAt w g s i)(hP:Pl s i)(hn:s.size - i<n+1) :
  Calls Tryz.prog 181 #[.int .i64 2,.func (.func 189) #[.pointer (some ⟨g,0,none⟩)] #[],.func (.func 190) #[.pointer (some ⟨g,0,none⟩)] #[]] w fun e w' => gX g w w' /\ sF g s w.heap.size i (FR s (lD (iB (gZ n)) (left s i))) (DB s (lD (iB (gZ n)) (left s i))) e w' := by
 obtain⟨R,hRR⟩:∃R,lD (iB (gZ n)) (left s i)=R:=⟨_,rfl⟩
 rw[hRR]
 refine(gNl g s hs (hFq s (iB (gZ n)) R i n) (hFo s (iB (gZ n)) R n) (FR s R) (gVe s R 2) ?_ ?_ w (s.size - i) i ⟨hP,hn,zzb _,.inl ⟨rfl,hRR⟩⟩ hR (fun f l i h=>Nat.le_trans h.1.1 hs) (fun f l i h=>Nat.le_trans h.1.1 hs) (fun l i h=>Nat.le_trans h.2.1 hs)).mono ?_
 ·intro f l i' W hI hW
  refine(gSe g s n hs hCH i' W hW hI.1 hI.2.1).mono ?_;rintro e W' ⟨h1,h2⟩;exact⟨h1,h2.mono (zzb _) (fun j h=>hCj hI h) (fun t j hij h=>hCi hI h hij)⟩
 ·intro f l j W hM hW
  refine(gMg g s j W hW hM.1.1 oo).mono ?_;rintro e W' ⟨rfl,h2,h3⟩;refine⟨h3.kept,?_⟩;cases hb:(pL (pk s j)||pk s j==40) with
  | true=>
   have:=hBi (i0:=i) hM hb
   exact .inl ⟨j,_,this.2,zzb _,h2,this.1,rfl⟩
  | false=>exact .inr ⟨h2,hBk hM hb,rfl⟩
 ·exact k129
theorem k04{p:Prop}(h:p:=by
  (go_wp2_with fail);refine(HB.out _ (HR0.out _)).mono ?_;rintro e1 W1 ⟨hK1,hE⟩;have hgl:=HG.out;have hz1:W1.heap[w.heap.size]? = some (.cells #[.int .i64 0,.string ⟨#[]⟩,.slice none 0 0] 69 (0,0)):=(hK1.block _ (by simp) oo).trans (heap_alloc_new w _);have HZ:Hid (W1.heap[w.heap.size]? = some (.cells #[.int .i64 0,.string ⟨#[]⟩,.slice none 0 0] 69 (0,0))):=hz1;have hKW:gX g w W1:=((gX.refl g w).alloc _).trans hK1;rcases hE with ⟨j,hRj,hF,rfl⟩ | ⟨j,t,m,r,hRj,hD,hG,hij,hlen,hX,rfl⟩
  ·have HF:Hid (∀cs,gX g w (W1.setRow w.heap.size cs)/\RAt (W1.setRow w.heap.size cs) g s j):=fun cs=>⟨hKW.setRow _ _ (zzb _),hRj.setRow _ _ oo⟩
   have HF2:Hid (FR s RR j):=hF;clear hKW hRj hF hK1 hz1 hgl HB HR0;unfold zE uL;(go_wp2_with (refine wpList_store_row rfl 69 _ _ rfl w.heap.size #[.int .i64 0,.string ⟨#[]⟩,.slice none 0 0] rfl rfl 69 _ HZ.out gE rfl (jF _ _ _ _ _) ?_));refine bodyPost_ret (gU rfl _ _ w.heap.size 69 #[.int .i64 0,.string ⟨#[]⟩,.slice none 0 0] (0,0) _ rfl (setRow_heap _ _ _ _ _ _ HZ.out) Tryz.underlying69 rfl gE) rfl ?_;exact⟨(HF.out _).1,.inl ⟨j,(HF.out _).2,HF2.out,rfl⟩⟩
  ·obtain⟨k,nm,a,ln,cp⟩:=r
   unfold jI at hX ⊢;simp only at hX ⊢;(have HF:Hid (∀cs,gX g w (W1.setRow w.heap.size cs)/\RAt (W1.setRow w.heap.size cs) g s j/\ExA (fun b=>w.heap.size<=b) (W1.setRow w.heap.size cs) m t (.agg #[.int .i64 k,.string nm,.slice a ln cp])):=fun cs=>⟨hKW.setRow _ _ (zzb _),hRj.setRow _ _ oo,ExA.kept (by rw[size_setRow];omega) (fun b hb hA=>by simp only[World.size_alloc] at hA;exact⟨oo,setRow_other _ _ _ _ oo⟩) _ _ _ hX⟩);have HD:Hid (DB s RR t j/\lC t/\i<j/\(subs t).length+i<=j):=⟨hD,hG,hij,hlen⟩;clear hKW hD hG hij hlen hX hRj hK1 hz1 hgl HB HR0;(go_wp2_with (refine wpList_store_row rfl 69 _ _ rfl w.heap.size #[.int .i64 k,.string nm,.slice a ln cp] rfl rfl 69 _ HZ.out gE rfl (jF _ _ _ _ _) ?_));refine bodyPost_ret (gU rfl _ _ w.heap.size 69 #[.int .i64 k,.string nm,.slice a ln cp] (0,0) _ rfl (setRow_heap _ _ _ _ _ _ HZ.out) Tryz.underlying69 rfl gE) rfl ?_;obtain⟨d1,d2,d3,d4⟩:=HD.out;exact⟨(HF.out _).1,.inr ⟨_,t,m,(k,nm,a,ln,cp),(HF.out _).2.1,d1,d2,d3,d4,(HF.out _).2.2,rfl⟩⟩
  ):p:=h
theorem gOb (g:Nat)(s:ByteArray)(n:Nat)(hs:s.size<=200)(hCH:CH g s n)(i:Nat)(w:World)(hR:RAt w g s i)(hP:Pl s i)(hn:s.size - i<n+1) :
  Calls Tryz.prog 182 #[.pointer (some ⟨g,0,none⟩)] w fun e w' => gX g w w' /\ sF g s w.heap.size i (FR s (lD (iB (gZ n)) (left s i))) (DB s (lD (iB (gZ n)) (left s i))) e w' := by
 have hgl:=hR.lt
 have HB:Hid (∀W,RAt W g s i->Calls Tryz.prog 181 #[.int .i64 2,.func (.func 189) #[.pointer (some ⟨g,0,none⟩)] #[],.func (.func 190) #[.pointer (some ⟨g,0,none⟩)] #[]] W fun e w' => gX g W w' /\ sF g s W.heap.size i (FR s (lD (iB (gZ n)) (left s i))) (DB s (lD (iB (gZ n)) (left s i))) e w'):=fun W h=>gWp g s n hs hCH i W h hP hn
 have HR0:Hid (∀o,RAt (w.alloc o) g s i):=fun o=>hR.alloc o
 have HG:Hid (g<w.heap.size):=hgl
 clear hR hP hn hCH hs hgl
 generalize (lD (iB (gZ n)) (left s i))=RR at *
 go_enter Tryz.func182,Tryz.ntmps182
 exact k04
theorem gPx (g:Nat)(s:ByteArray)(n:Nat)(hs:s.size<=200)(hCH:CH g s n)(i:Nat)(w:World)(hR:RAt w g s i)(hP:Pl s i)(hn:s.size - i<n+1) :
  Calls Tryz.prog 181 #[.int .i64 3,.func (.func 182) #[.pointer (some ⟨g,0,none⟩)] #[],.func (.func 183) #[.pointer (some ⟨g,0,none⟩)] #[]] w fun e w' => gX g w w' /\ sF g s w.heap.size i (FR s (rM (lD (iB (gZ n))) (left s i))) (DB s (rM (lD (iB (gZ n))) (left s i))) e w' := by
 obtain⟨R,hRR⟩:∃R,rM (lD (iB (gZ n))) (left s i)=R:=⟨_,rfl⟩
 rw[hRR]
 refine(gNm g s hs (hFr s (lD (iB (gZ n))) R n) (hFp s (lD (iB (gZ n))) R n) (FR s R) (gVe s R 3) ?_ ?_ w (s.size - i) i ⟨hP,hn,zzb _,.inl ⟨rfl,hRR⟩⟩ hR (fun f l i h=>Nat.le_trans h.1.1 hs) (fun f l i h=>Nat.le_trans h.1.1 hs) (fun l i h=>Nat.le_trans h.2.1 hs)).mono ?_
 ·intro f l i' W hI hW
  refine(gOb g s n hs hCH i' W hW hI.1 hI.2.1).mono ?_;rintro e W' ⟨h1,h2⟩;exact⟨h1,h2.mono (zzb _) (fun j h=>gJh hI h) (fun t j hij h=>gXz hI h hij)⟩
 ·intro f l j W hM hW
  refine(gHs g s j W hW hM.1.1 oo).mono ?_;rintro e W' ⟨h3,h⟩;refine⟨h3.kept,?_⟩;rcases h with ⟨hp,rfl,h2⟩ | ⟨hp,rfl,h2⟩
  ·obtain⟨m1,m2,m3⟩:=gXc hM hp
   exact .inl ⟨_,_,m2,m3,h2,m1,rfl⟩
  ·exact .inr ⟨h2,gXd hM hp,rfl⟩
 ·exact k129
theorem gId (g:Nat)(s:ByteArray)(n:Nat)(hs:s.size<=200)(hCH:CH g s n)(i:Nat)(w:World)(hR:RAt w g s i)(hP:Pl s i)(hn:s.size - i<n+1) :
  Calls Tryz.prog 172 #[.pointer (some ⟨g,0,none⟩)] w fun e w' => gX g w w' /\ sF g s w.heap.size i (FR s (rM (lD (iB (gZ n))) (left s i))) (DB s (rM (lD (iB (gZ n))) (left s i))) e w' := by
 have hgl:=hR.lt
 have HB:Hid (∀W,RAt W g s i->Calls Tryz.prog 181 #[.int .i64 3,.func (.func 182) #[.pointer (some ⟨g,0,none⟩)] #[],.func (.func 183) #[.pointer (some ⟨g,0,none⟩)] #[]] W fun e w' => gX g W w' /\ sF g s W.heap.size i (FR s (rM (lD (iB (gZ n))) (left s i))) (DB s (rM (lD (iB (gZ n))) (left s i))) e w'):=fun W h=>gPx g s n hs hCH i W h hP hn
 have HR0:Hid (∀o,RAt (w.alloc o) g s i):=fun o=>hR.alloc o
 have HG:Hid (g<w.heap.size):=hgl
 clear hR hP hn hCH hs hgl
 generalize (rM (lD (iB (gZ n))) (left s i))=RR at *
 go_enter Tryz.func172,Tryz.ntmps172
 exact k04
theorem CH.all (g:Nat)(s:ByteArray)(hs:s.size<=200):∀n,CH g s n:=by
 intro n
 induction n with
 | zero=>intro W i _ _ h;exact absurd h oo
 | succ n ih=>intro W i hR hP hn;exact gId g s n hs ih i W hR hP hn
end Go.Proofs.YtjkebndkeamijaaGreatDoor
/- Nam: what the plain parser reads has no long names; a tree in memory is as deep as it is. -/
namespace Go.Proofs.YtjkebndkeamijaaGreatDoor
open Go.RowKit
def uY (t:DataW Unit):Prop:=∀m,oG m t
theorem uY.node {k:Int}{s:ByteArray}{ts:List (DataW Unit)}(hs:s.size<=9223372036854775807)(h:∀x∈ts,uY x):uY (node k s ts):=by
 intro m
 cases m with
 | zero=>trivial
 | succ m=>
  refine⟨by rw[kT];exact hs,fun x hx=>?_⟩;rw[iC] at hx;exact h x hx m
theorem uY.subs {t x:DataW Unit}(h:uY t)(hx:x∈subs t):uY x:=fun m=>(h (m+1)).2 x hx
def gMk (f:List UInt8->Option (DataW Unit)×List UInt8):Prop:=∀s t q,f s=(some t,q)->s.length<=200->uY t/\q.length<=200
theorem gDf:∀(s:List UInt8) (t:DataW Unit),uY t->uY (iY t s).1:=by
 intro s
 induction s with
 | nil=>intro t h;exact h
 | cons c r ih=>
  intro t h;rw[iY]
  split
  ·exact ih t h
  ·split
   ·exact h
   ·refine ih _ (uY.node (by decide) fun x hx=>?_)
    (obtain rfl:x=t:=by simpa using hx);exact h
theorem gSd {alt:List UInt8->Option (DataW Unit)×List UInt8}(ha:gMk alt)(hs:Shr (iB alt)):gMk (iB alt):=by
 intro s t q h hl
 refine⟨?_,by have:=hs s t q h;omega⟩
 have hsk:=tU s
 unfold iB at h
 split at h
 ·cases h
 ·rename_i c r e
  rw[e] at hsk
  split at h
  ·cases h
   refine gDf _ _ (uY.node ?_ fun x hx=>by cases hx);have h1:=congrArg List.length (pH (p:=gH) (c::r)).1;rw[List.length_take] at h1
   show ((c::r).takeWhile gH).toArray.size<=_
   rw[List.size_toArray];omega
  ·split at h
   ·rw[List.length_cons] at hsk
    split at h
    ·cases h
    ·cases h
    ·rename_i t' d q' he
     split at h
     ·cases h
      exact gDf _ _ (ha r t' _ he oo).1
     ·cases h
   ·cases h
theorem gGv {k:Int}{l:List (DataW Unit)}(h:∀x∈l,uY x)(h0:l≠[]):uY (jV k l):=by
 have hf:uY (Go.Proofs.YtjkebndkeamijaaGreatDoor.node k ⟨#[]⟩ (jK k l)):=uY.node (by decide) fun y hy=>by
  rcases gPl k l y hy with hy | ⟨x,hx,hy⟩
  ·exact h y hy
  ·exact(h x hx).subs hy
 match l,h,h0,hf with
 | [x],h,_,_=>exact h x (zzg ..)
 | x::y::r,_,_,hf=>exact hf
theorem k86{p:Prop}(h:p:=by
  refine ih _ _ _ _ h this.2 (fun x hx=>?_) (by simp);rcases List.mem_append.1 hx with hx | hx
  ·exact hl x hx
  ·obtain rfl:x=t:=by simpa using hx
   exact this.1
  ):p:=h
theorem gFn {mG:List UInt8->Option (DataW Unit)×List UInt8}(hp:gMk mG):∀(F:Nat) (l l' : List (DataW Unit)) (s q:List UInt8),jY mG F l s=(some l', q)->s.length<=200->(∀x∈l,uY x)->l≠[]->(∀x∈l', uY x)/\l' ≠ []/\q.length<=200:=by
 intro F
 induction F with
 | zero=>intro l l' s q h;cases h
 | succ F ih=>
  intro l l' s q h hs hl h0;cases s with
  | nil=>cases h;exact⟨hl,h0,by simp⟩
  | cons c r=>
   rw[jY] at h
   split at h
   ·cases h;exact⟨hl,h0,hs⟩
   ·split at h
    ·cases h
    ·rename_i t r' e
     have:=hp _ _ _ e hs
     exact k86
theorem gHf {seq:List UInt8->Option (DataW Unit)×List UInt8}(hp:gMk seq):∀(F:Nat) (l l' : List (DataW Unit)) (s q:List UInt8),kG seq F l s=(some l', q)->s.length<=200->(∀x∈l,uY x)->l≠[]->(∀x∈l', uY x)/\l' ≠ []/\q.length<=200:=by
 intro F
 induction F with
 | zero=>intro l l' s q h;cases h
 | succ F ih=>
  intro l l' s q h hs hl h0;cases s with
  | nil=>cases h;exact⟨hl,h0,by simp⟩
  | cons c r=>
   rw[kG] at h
   split at h
   ·split at h
    ·cases h
    ·rename_i t r' e
     rw[List.length_cons] at hs
     have:=hp _ _ _ e oo
     exact k86
   ·cases h;exact⟨hl,h0,hs⟩
theorem gVw {mG:List UInt8->Option (DataW Unit)×List UInt8}(hp:gMk mG):gMk (lD mG):=by
 intro s t q h hs
 unfold lD at h
 split at h
 ·cases h
 ·rename_i t0 r' e
  have h0:=hp _ _ _ e hs;cases hL:jY mG (r'.length+1) [t0] r' with
  | mk o q' =>
   rw[hL] at h;cases o with
   | none=>cases h
   | some l' =>
    cases h
    have:=gFn hp _ _ _ _ _ hL h0.2 (fun x hx=>by rw[show x=t0 by simpa using hx];exact h0.1) (by simp)
    exact⟨gGv this.1 this.2.1,this.2.2⟩
theorem gYy {seq:List UInt8->Option (DataW Unit)×List UInt8}(hp:gMk seq):gMk (rM seq):=by
 intro s t q h hs
 unfold rM at h
 split at h
 ·cases h
 ·rename_i t0 r' e
  have h0:=hp _ _ _ e hs;cases hL:kG seq (r'.length+1) [t0] r' with
  | mk o q' =>
   rw[hL] at h;cases o with
   | none=>cases h
   | some l' =>
    cases h
    have:=gHf hp _ _ _ _ _ hL h0.2 (fun x hx=>by rw[show x=t0 by simpa using hx];exact h0.1) (by simp)
    exact⟨gGv this.1 this.2.1,this.2.2⟩
theorem gAe:∀n,gMk (gZ n):=by
 intro n
 induction n with
 | zero=>intro s t q h;cases h
 | succ n ih=>exact gYy (gVw (gSd ih (gAv (gHi n))))
end Go.Proofs.YtjkebndkeamijaaGreatDoor
/- Whole: the reader's whole at every text: what it returns; nothing that lay before is turned but its own block. -/
namespace Go.Proofs.YtjkebndkeamijaaGreatDoor
open Go.RowKit
theorem gIz (s:ByteArray):left s 0=bts s:=rfl
theorem oP (s:ByteArray):(bts s).length=s.size:=by rw[<-kV,kZ]
theorem yK {s:List UInt8}(h0:jX s≠[]){o:Option (DataW Unit)}{q:List UInt8}(h:gZ (s.length+1) s=(o,q))(hq:o=none\/q≠[]):nQ s=none:=by
 unfold nQ
 rw[if_neg h0,h]
 rcases hq with rfl | hq
 ·rfl
 ·cases q with
  | nil=>exact absurd rfl hq
  | cons c q=>cases o<;>rfl
theorem gX.drewN {g:Nat}{w w' : World}(h:gX g w w')(q:Nat):gX g w (w'.drewN q):=⟨h.os,h.tape,h.output,h.size,h.block⟩
def Whl (g:Nat)(s:ByteArray)(lo:Nat)(e:Ending)(w' : World):Prop :=
 (jX (bts s)=[]/\e=.returned (.tuple #[zE,.nilIface])) ∨
 (∃r t m,jX (bts s)≠[]/\gZ (s.size+1) (bts s)=(some t,[])/\ExA (fun b=>lo<=b/\b≠g) w' m t (jI r)/\lC t/\e=.returned (.tuple #[jI r,.nilIface])) ∨
 (∃r j,jX (bts s)≠[]/\(gZ (s.size+1) (bts s)).2=left s j/\nQ (bts s)=none/\j<=s.size/\e=.returned (.tuple #[jI r,uL j 4]))
theorem gMp (g:Nat)(s:ByteArray)(hs:s.size<=200)(w:World)(hR:RAt w g s 0) :
  Calls Tryz.prog 166 #[.pointer (some ⟨g,0,none⟩)] w fun e w' => gX g w w' /\ Whl g s w.heap.size e w' := by
 have hgl:=hR.lt
 obtain⟨P1,p2,p3⟩:=Pl.skip (s:=s) (i:=0) (zzn _)
 rw[gIz] at p3
 have hA:gZ (s.size+1) (left s (skip s 0))=gZ (s.size+1) (bts s):=gCw _ (by rw[p3,sS])
 have HP1:Hid (∀W,RAt W g s 0->Calls Tryz.prog 171 #[.pointer (some ⟨g,0,none⟩),.int .i64 0] W fun r w' => r=.returned (.tuple #[])/\RAt w' g s (skip s 0)/\jW g W w'):=fun W h=>qX g s 0 0 W h oo oo
 have HC:Hid (∀W,RAt W g s (skip s 0)->Calls Tryz.prog 172 #[.pointer (some ⟨g,0,none⟩)] W fun e W' => gX g W W' /\ sF g s W.heap.size (skip s 0) (FR s (gZ (s.size+1) (bts s))) (DB s (gZ (s.size+1) (bts s))) e W'):=fun W h=>by
  have:=CH.all g s hs (s.size+1) W _ h P1 oo
  rwa [hA] at this
 have HR0:Hid (∀o,RAt (w.alloc o) g s 0):=fun o=>hR.alloc o
 have HG:Hid (g<w.heap.size/\s.size<=200):=⟨hgl,hs⟩
 have HL:Hid (left s (skip s 0)=jX (bts s)/\skip s 0<=s.size):=⟨p3,P1.1⟩
 clear hR hs hgl P1 p2 p3 hA
 obtain⟨i0,hi0⟩:∃i0,skip s 0=i0:=⟨_,rfl⟩
 rw[hi0] at HP1 HC HL
 clear hi0
 by_cases hnil:i0=s.size
 ·have HN:Hid (jX (bts s)=[]):=by
   show _=_
   rw[<-HL.out.1,hnil,oI]
  (have hnb:((i0:Int)==(s.size:Int))=true:=by rw[beq_iff_eq];omega);go_enter Tryz.func166,Tryz.ntmps166;(go_wp2_with fail);refine(HP1.out _ (HR0.out _)).mono ?_;rintro e1 W1 ⟨rfl,hR1,hO1⟩;obtain⟨c0,c1,f1⟩:=hR1.cells;have hgl:=HG.out.1;have hz1:W1.heap[w.heap.size]? = some (.cells #[.int .i64 0,.string ⟨#[]⟩,.slice none 0 0] 69 (0,0)):=(hO1.block _ oo).trans (heap_alloc_new w _);(have HZ:Hid (∀q,(W1.drewN q).heap[w.heap.size]? = some (.cells #[.int .i64 0,.string ⟨#[]⟩,.slice none 0 0] 69 (0,0))):=fun q=>hz1);have hK1:gX g w W1:=((gX.refl g w).alloc _).trans hO1.kept;(have HF:Hid (∀q cs,gX g w ((W1.drewN q).setRow w.heap.size cs)):=fun q cs=>gX.setRow (w' := W1.drewN q) ⟨hK1.os,hK1.tape,hK1.output,hK1.size,hK1.block⟩ _ _ (zzb _));clear hz1 hK1 hO1 hR1 hgl HP1 HC HR0;go_wp2_with fail
  go_quiet (fail)
  (go_wp2_with (refine wpList_store_row rfl 69 _ _ rfl w.heap.size #[.int .i64 0,.string ⟨#[]⟩,.slice none 0 0] rfl rfl 69 _ (HZ.out _) gE rfl (jF _ _ _ _ _) ?_));refine bodyPost_ret (gU rfl _ _ w.heap.size 69 #[.int .i64 0,.string ⟨#[]⟩,.slice none 0 0] (0,0) _ rfl (setRow_heap _ _ _ _ _ _ (HZ.out _)) Tryz.underlying69 rfl gE) rfl ?_;exact⟨HF.out _ _,.inl ⟨HN.out,rfl⟩⟩
 ·have hnb:((i0:Int)==(s.size:Int))=false:=by rw[beq_eq_false_iff_ne];omega
  have HN:Hid (jX (bts s)≠[]):=by
   intro e
   have:=iL s i0
   rw[HL.out.1,e,List.length_nil] at this
   have:=HL.out.2
   omega
  go_enter Tryz.func166,Tryz.ntmps166;(go_wp2_with fail);refine(HP1.out _ (HR0.out _)).mono ?_;rintro e1 W1 ⟨rfl,hR1,hO1⟩;obtain⟨c0,c1,f1⟩:=hR1.cells;have hgl:=HG.out.1;have hz1:W1.heap[w.heap.size]? = some (.cells #[.int .i64 0,.string ⟨#[]⟩,.slice none 0 0] 69 (0,0)):=(hO1.block _ oo).trans (heap_alloc_new w _);have hK1:gX g w W1:=((gX.refl g w).alloc _).trans hO1.kept;(have hs1:W1.heap.size=w.heap.size+1:=by rw[hO1.size];simp);(have HW1:Hid (∀q,RAt (W1.drewN q) g s i0/\(W1.drewN q).heap[w.heap.size]? = some (.cells #[.int .i64 0,.string ⟨#[]⟩,.slice none 0 0] 69 (0,0))/\gX g w (W1.drewN q)/\(W1.drewN q).heap.size=w.heap.size+1):=fun q=>⟨hR1,hz1,⟨hK1.os,hK1.tape,hK1.output,hK1.size,hK1.block⟩,hs1⟩);clear hz1 hK1 hO1 hR1 hgl HP1 HR0 hs1;go_wp2_with fail
  go_quiet (fail)
  (go_wp2_with fail);refine(HC.out _ (HW1.out _).1).mono ?_;rintro e2 W2 ⟨hK2,hE⟩;have hgl:=HG.out.1;obtain⟨-,hz1,hK1,hs1⟩:=HW1.out nq;clear HW1 HC c0 c1 f1;have hs2:=hK2.size;have hz2:W2.heap[w.heap.size]? = some (.cells #[.int .i64 0,.string ⟨#[]⟩,.slice none 0 0] 69 (0,0)):=(hK2.block _ oo oo).trans hz1;have hKW:gX g w W2:=hK1.trans hK2;rcases hE with ⟨j,hRj,hF,rfl⟩ | ⟨j,t,m,r,hRj,hD,hG,hij,hlen,hX,rfl⟩
  ·have HZ:Hid (∀o q,((W2.alloc o).drewN q).heap[w.heap.size]? = some (.cells #[.int .i64 0,.string ⟨#[]⟩,.slice none 0 0] 69 (0,0))):=fun o q=>(zzf W2 o _ oo).trans hz2
   (have HF:Hid (∀o q cs,gX g w (((W2.alloc o).drewN q).setRow w.heap.size cs)):=fun o q cs=>gX.setRow (w' := (W2.alloc o).drewN q) ⟨(hKW.alloc o).os,(hKW.alloc o).tape,(hKW.alloc o).output,(hKW.alloc o).size,(hKW.alloc o).block⟩ _ _ (zzb _));have HF2:Hid ((gZ (s.size+1) (bts s)).2=left s j/\nQ (bts s)=none/\j<=s.size):=⟨by rw[hF.1],yK HN.out (by rw[oP];exact hF.1) (.inl rfl),hF.2.1⟩;clear hKW hRj hF hK1 hK2 hz1 hz2 hgl hs1 hs2;unfold zE uL;go_wp2_with fail
   go_quiet (fail)
   (go_wp2_with (refine wpList_store_row rfl 69 _ _ rfl w.heap.size #[.int .i64 0,.string ⟨#[]⟩,.slice none 0 0] rfl rfl 69 _ (HZ.out _ _) gE rfl (jF _ _ _ _ _) ?_));refine bodyPost_ret (gU rfl _ _ w.heap.size 69 #[.int .i64 0,.string ⟨#[]⟩,.slice none 0 0] (0,0) _ rfl (setRow_heap _ _ _ _ _ _ (HZ.out _ _)) Tryz.underlying69 rfl gE) rfl ?_;exact⟨HF.out _ _ _,.inr (.inr ⟨(0,⟨#[]⟩,none,0,0),j,HN.out,HF2.out.1,HF2.out.2.1,HF2.out.2.2,rfl⟩)⟩
  ·obtain⟨k,nm,a,ln,cp⟩:=r
   unfold jI at hX ⊢;simp only at hX ⊢;have hjs:=hD.2.1;have hRa:RAt (W2.alloc (.cells #[.int .i64 k,.string nm,.slice a ln cp] 69)) g s j:=hRj.alloc _;obtain⟨c0,c1,f1⟩:=hRa.cells;(have HRF:Hid (∀W,RAt W g s j->Calls Tryz.prog 173 #[.pointer (some ⟨g,0,none⟩)] W fun r w' => r=.returned (uL j 4)/\w' = W):=fun W h=>vC g s j W h);(have HW2:Hid (∀q,RAt ((W2.alloc (.cells #[.int .i64 k,.string nm,.slice a ln cp] 69)).drewN q) g s j):=fun q=>hRa);(have he:∀q,((W2.alloc (.cells #[.int .i64 k,.string nm,.slice a ln cp] 69)).drewN q).heap[W2.heap.size]? = some (.cells #[.int .i64 k,.string nm,.slice a ln cp] 69 (0,0)):=fun q=>heap_alloc_new W2 _);(have HC0:Hid (∀q,((W2.alloc (.cells #[.int .i64 k,.string nm,.slice a ln cp] 69)).drewN q).cell? ⟨W2.heap.size,0,none⟩=some (.int .i64 k)):=fun q=>cell_of_row _ _ 0 _ _ _ (he q));(have HC1:Hid (∀q,((W2.alloc (.cells #[.int .i64 k,.string nm,.slice a ln cp] 69)).drewN q).cell? ⟨W2.heap.size,1,none⟩=some (.string nm)):=fun q=>cell_of_row _ _ 1 _ _ _ (he q));(have HC2:Hid (∀q,((W2.alloc (.cells #[.int .i64 k,.string nm,.slice a ln cp] 69)).drewN q).cell? ⟨W2.heap.size,2,none⟩=some (.slice a ln cp)):=fun q=>cell_of_row _ _ 2 _ _ _ (he q));(have HZ:Hid (∀q,((W2.alloc (.cells #[.int .i64 k,.string nm,.slice a ln cp] 69)).drewN q).heap[w.heap.size]? = some (.cells #[.int .i64 0,.string ⟨#[]⟩,.slice none 0 0] 69 (0,0))):=fun q=>(zzf W2 _ _ oo).trans hz2);(have HF:Hid (∀q cs,gX g w (((W2.alloc (.cells #[.int .i64 k,.string nm,.slice a ln cp] 69)).drewN q).setRow w.heap.size cs)):=fun q cs=>((hKW.alloc _).drewN q).setRow _ _ (zzb _));(have hXs:∀(W' : World),W2.heap.size<=W'.heap.size->(∀b,b<W2.heap.size->b≠w.heap.size->W'.heap[b]? = W2.heap[b]?)->ExA (fun b=>w.heap.size<=b/\b≠g) W' m t (.agg #[.int .i64 k,.string nm,.slice a ln cp]):=fun W' h1 h2=>ExA.kept h1 (fun b hb hA=>⟨⟨oo,oo⟩,h2 b hb oo⟩) _ _ _ hX);(have hsa:W2.heap.size<=(W2.alloc (.cells #[.int .i64 k,.string nm,.slice a ln cp] 69)).heap.size:=by simp);(have HX:Hid (∀q cs,ExA (fun b=>w.heap.size<=b/\b≠g) (((W2.alloc (.cells #[.int .i64 k,.string nm,.slice a ln cp] 69)).drewN q).setRow w.heap.size cs) m t (.agg #[.int .i64 k,.string nm,.slice a ln cp])):=fun q cs=>hXs _ (by rw[size_setRow];exact hsa) (fun b hb hn=>(setRow_other _ _ _ _ hn).trans (zzf W2 _ b hb)));clear hXs hsa
   by_cases hjl:j<s.size
   ·have HF2:Hid ((gZ (s.size+1) (bts s)).2=left s j/\nQ (bts s)=none/\j<=s.size):=by
     have hne:left s j≠[]:=fun e=>by
      have:=iL s j
      rw[e,List.length_nil] at this;omega
     refine⟨?_,?_,hjs⟩
     ·rcases hD.1 with h | ⟨h,_⟩<;>rw[h]
     ·rcases hD.1 with h | ⟨h,_⟩
      ·exact yK HN.out (by rw[oP];exact h) (.inr hne)
      ·exact yK HN.out (by rw[oP];exact h) (.inr hne)
    (have hjb:(j:Int)<(s.size:Int):=by omega);clear hKW hRj hD hG hij hlen hX hK1 hK2 hz1 hz2 hgl hs1 hs2 hjs hRa he;go_wp2_with fail
    go_quiet (fail)
    have d0:=HC0.out;have d1:=HC1.out;have d2:=HC2.out;(go_wp2_with fail);refine(HRF.out _ (HW2.out _)).mono ?_;rintro e4 W4 ⟨rfl,hW4⟩;rw[hW4];clear hW4;(go_wp2_with (refine wpList_store_row rfl 69 _ _ rfl w.heap.size #[.int .i64 k,.string nm,.slice a ln cp] rfl rfl 69 _ (HZ.out _) gE rfl (jF _ _ _ _ _) ?_));refine bodyPost_ret (gU rfl _ _ w.heap.size 69 #[.int .i64 k,.string nm,.slice a ln cp] (0,0) _ rfl (setRow_heap _ _ _ _ _ _ (HZ.out _)) Tryz.underlying69 rfl gE) rfl ?_;exact⟨HF.out _ _,.inr (.inr ⟨(k,nm,a,ln,cp),j,HN.out,HF2.out.1,HF2.out.2.1,HF2.out.2.2,rfl⟩)⟩
   ·obtain rfl:j=s.size:=by omega
    have HF2:Hid (gZ (s.size+1) (bts s)=(some t,[])):=by
     rcases hD.1 with h | ⟨_,c,q,e,_⟩
     ·rw[oI] at h
      exact h
     ·rw[oI] at e
      cases e
    have HG2:Hid (lC t):=hG;(have hjb:decide ((s.size:Int)<(s.size:Int))=false:=by simp);clear hKW hRj hD hG hij hlen hX hK1 hK2 hz1 hz2 hgl hs1 hs2 hjs hRa he;go_wp2_with fail
    go_quiet (fail)
    have d0:=HC0.out;have d1:=HC1.out;have d2:=HC2.out;(go_wp2_with (refine wpList_store_row rfl 69 _ _ rfl w.heap.size #[.int .i64 k,.string nm,.slice a ln cp] rfl rfl 69 _ (HZ.out _) gE rfl (jF _ _ _ _ _) ?_));refine bodyPost_ret (gU rfl _ _ w.heap.size 69 #[.int .i64 k,.string nm,.slice a ln cp] (0,0) _ rfl (setRow_heap _ _ _ _ _ _ (HZ.out _)) Tryz.underlying69 rfl gE) rfl ?_;exact⟨HF.out _ _,.inr (.inl ⟨(k,nm,a,ln,cp),t,m,HN.out,HF2.out,HX.out _ _,HG2.out,rfl⟩)⟩
end Go.Proofs.YtjkebndkeamijaaGreatDoor
