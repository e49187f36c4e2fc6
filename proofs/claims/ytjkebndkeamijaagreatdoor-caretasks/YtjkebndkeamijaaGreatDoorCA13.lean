/-
  PROVED HERE: what the texts DALayRest, DALayAll, DALang say.
-/
import Derived.Test.YtjkebndkeamijaaGreatDoorCA12
set_option maxRecDepth 100000
set_option maxHeartbeats 2000000
namespace Go.Proofs.YtjkebndkeamijaaGreatDoor
open Go.RowKit
theorem gHx (W0:World)(ga:Option Addr)(gl gc:Nat)(k:Int)(hk:k<1\/6<k)(s:ByteArray)(a:Option Addr)(len cap:Nat)(w:World)(next:Nat)(A:Nat->Prop)(B:Nat)(L:List gD)(hB:Below W0.heap.size W0 w)(hP:iA A w B (.slice ga gl gc) L) :
  Calls Tryz.prog 118 #[.pointer (some ⟨B,0,none⟩),.agg #[.int .i64 k,.string s,.slice a len cap],.int .i64 (next:Int)] w fun e w' => e=.returned (.int .i64 (next:Int))/\∃A', iA A' w' B (.slice ga gl gc) L/\Fr A w A' w' := by
 have hbase:=hB.size
 have HE:Hid (∃A', iA A' (qK w B k s a len cap next) B (.slice ga gl gc) L/\Fr A w A' (qK w B k s a len cap next)):=⟨A,hP.kept (fun _ h=>h) fun b hb _=>(nK ..).block b hb,Fr.of_below (nK ..)⟩
 have e1:(k==1)=false:=by rw[beq_eq_false_iff_ne];omega
 have e2:(k==2)=false:=by rw[beq_eq_false_iff_ne];omega
 have e3:(k==3)=false:=by rw[beq_eq_false_iff_ne];omega
 have e4:(k==4)=false:=by rw[beq_eq_false_iff_ne];omega
 have e5:(k==5)=false:=by rw[beq_eq_false_iff_ne];omega
 have e6:(k==6)=false:=by rw[beq_eq_false_iff_ne];omega
 unfold qK at HE
 clear hP hB hk
 go_enter Tryz.func118,Tryz.ntmps118
 go_wp2
 go_ret
 exact⟨rfl,HE.out⟩
theorem gLl {W0:World}{n:Nat}{k:Int}{s:ByteArray}{x:DataW Unit}{a:Option Addr}{len cap:Nat}(hE:Ex W0 (n+1) (node k s [x]) (.agg #[.int .i64 k,.string s,.slice a len cap])):len=1/\∃b o kx sx ax lx cx,a=some ⟨b,o,none⟩/\Ex W0 n x (.agg #[.int .i64 kx,.string sx,.slice ax lx cx]) ∧
  ∀W:World,Below W0.heap.size W0 W->W.cell? ⟨b,o,none⟩=some (.int .i64 kx)/\W.cell? ⟨b,o+1,none⟩=some (.string sx)/\W.cell? ⟨b,o+2,none⟩=some (.slice ax lx cx):=by
 obtain⟨k', s', a', len', cap', ts', hnode,hv,hl,hz,hk⟩:=hE
 obtain⟨rfl,rfl,rfl⟩:=gAy.1 hnode
 obtain⟨rfl,rfl,rfl⟩:a=a' /\ len=len' /\ cap=cap' := by
  have:=Array.toList_inj.2 (Value.agg.inj hv)
  simp only[List.cons.injEq,Value.slice.injEq,and_true,true_and] at this;exact this
 have hlen:len=1:=by simpa using hl.symm
 obtain⟨b,o,y,kx,sx,ax,lx,cx,e,hlt,hy,hc⟩:=pM hl hk (i:=0) oo
 obtain rfl:x=y:=by simpa using hy
 refine⟨hlen,b,o,kx,sx,ax,lx,cx,e,(hc W0 (zzd _ _)).2.2.2,fun W hW=>?_⟩
 obtain⟨c0,c1,c2,_⟩:=hc W hW
 simp only[Nat.zero_mul,Nat.add_zero] at c0 c1 c2
 exact⟨c0,c1,c2⟩
theorem k61{p:Prop}(h:p:=by
  obtain⟨c0,c1,c2⟩:=hkid W (hB3.drew.trans (hF.toBelow (base:=W0.heap.size) (by show _<=w3.heap.size;omega) (fun k hk h=>by have:=hA3 k h;omega)));refine⟨⟨d0,d3,d4,c0,c1,c2⟩,((Fr.of_below (A:=A) hb3.drew).trans (hF.wide (A:=A) fun k h=>h.1))⟩
  ):p:=h
theorem gHv (W0:World)(gs:List Grp)(ga:Option Addr)(gl gc n:Nat)(hlay:gTz W0 gs ga gl gc n)(s:ByteArray)(a:Option Addr)(len cap:Nat)(x:DataW Unit)(w:World)(next:Nat)(A:Nat->Prop)(B:Nat)(L:List gD)
  (hE:Ex W0 (n+1) (node 4 s [x]) (.agg #[.int .i64 4,.string s,.slice a len cap])) (hS:qS gs n x) (hB:Below W0.heap.size W0 w) (hA:∀b,A b->W0.heap.size<=b)
  (hP:iA A w B (.slice ga gl gc) L)(hwf:wf L)(hn:next<L.length)(hlen:L.length+(2+qQ subs n x)<=1000000000) :
  Calls Tryz.prog 118 #[.pointer (some ⟨B,0,none⟩),.agg #[.int .i64 4,.string s,.slice a len cap],.int .i64 (next:Int)] w fun e w' => e=.returned (.int .i64 ((iI (iM gs n) [x] next L).2.1:Int))/\∃A', iA A' w' B (.slice ga gl gc) (iI (iM gs n) [x] next L).1/\Fr A w A' w' := by
 have hbase:=hB.size
 obtain⟨w3,hw3⟩:∃w3,w3=qK w B 4 s a len cap next:=⟨_,rfl⟩
 have hs3:w3.heap.size=w.heap.size+3:=by rw[hw3,mJ]
 have hb3:Below w.heap.size w w3:=by rw[hw3];exact nK ..
 have hP3:iA (fun b=>A b/\b<w.heap.size) w3 B (.slice ga gl gc) L:=hP.tight.kept (fun _ h=>h) fun b hb _=>hb3.block b hb
 have hB3:Below W0.heap.size W0 w3:=hB.trans (hb3.mono hbase)
 have hA3:∀b,A b/\b<w.heap.size->W0.heap.size<=b:=fun b h=>hA b h.1
 obtain⟨rfl,b,o,kx,sx,ax,lx,cx,rfl,hEx,hkid⟩:=gLl hE
 have HL:Hid (Calls Tryz.prog 150 #[.pointer (some ⟨B,0,none⟩),.agg #[.int .i64 kx,.string sx,.slice ax lx cx],.int .i64 (next:Int)] w3.drew fun e w' => e=.returned (.tuple #[.int .i64 ((iI (iM gs n) [x] next L).2.1:Int),.int .i64 ((iI (iM gs n) [x] next L).2.2:Int)])/\∃A', iA A' w' B (.slice ga gl gc) (iI (iM gs n) [x] next L).1/\Fr (fun b=>A b/\b<w.heap.size) w3.drew A' w') :=
  gGp W0 gs ga gl gc n hlay x _ w3.drew next (fun b=>A b/\b<w.heap.size) B L hEx hS hB3.drew hA3 (hP3.kept (fun _ h=>h) fun _ _ _=>rfl) hwf hn oo
 have HS:Hid (∀(W:World) (A' : Nat->Prop),Fr (fun b=>A b/\b<w.heap.size) w3.drew A' W->(W.cell? ⟨w.heap.size,0,none⟩=some (.pointer (some ⟨B,0,none⟩))/\W.cell? ⟨w.heap.size+1,2,none⟩=some (.slice (some ⟨b,o,none⟩) 1 cap)/\W.cell? ⟨w.heap.size+2,0,none⟩=some (.int .i64 (next:Int))/\W.cell? ⟨b,o,none⟩=some (.int .i64 kx)/\W.cell? ⟨b,o+1,none⟩=some (.string sx)/\W.cell? ⟨b,o+2,none⟩=some (.slice ax lx cx))/\Fr A w A' W):=by
  intro W A' hF
  obtain⟨d0,_,_,d3,d4⟩:=oJ (w:=w) (X:=W) (B:=B) (k:=4) (s:=s) (a:=some ⟨b,o,none⟩) (len:=1) (cap:=cap) (next:=next) (fun j hj=>by
   rw[<-hw3]
   exact hF.same _ (by show _<w3.heap.size;omega) (fun h=>by have:=h.2;omega))
  exact k61
 have hw3' : Hid (((w.alloc (.cells #[.pointer (some ⟨B,0,none⟩)] 164)).alloc (.cells #[.int .i64 4,.string s,.slice (some ⟨b,o,none⟩) 1 cap] 69)).alloc (.cells #[.int .i64 (next:Int)] 3)=w3):=hw3.symm
 generalize iI (iM gs n) [x] next L=r at *
 obtain⟨R,f1,f2⟩:=r
 simp only at *
 have hS0:=(HS.out _ _ (Fr.refl _ _)).1
 clear hP hP3 hB hB3 hE hS hlay hwf hA hA3 hEx hkid hw3 hb3
 go_enter Tryz.func118,Tryz.ntmps118
 go_wp2_with fail
 rw[hw3'.out]
 refine wp_region_held_drew (S:=fun W=>W.cell? ⟨w.heap.size,0,none⟩=some (.pointer (some ⟨B,0,none⟩))/\W.cell? ⟨w.heap.size+1,2,none⟩=some (.slice (some ⟨b,o,none⟩) 1 cap)/\W.cell? ⟨w.heap.size+2,0,none⟩=some (.int .i64 (next:Int))/\W.cell? ⟨b,o,none⟩=some (.int .i64 kx)/\W.cell? ⟨b,o+1,none⟩=some (.string sx)/\W.cell? ⟨b,o+2,none⟩=some (.slice ax lx cx)) hmx hS0 (fun hS=>?_)
 refine gA 0 (some 88) hS ?_ (hy:=by intro w hSw;obtain⟨s1,s2,s3,s4,s5,s6⟩:=hSw;go_simp;with_reducible rfl)
 refine gA 1 (some 89) hS ?_ (hy:=by intro w hSw;obtain⟨s1,s2,s3,s4,s5,s6⟩:=hSw;go_simp;with_reducible rfl)
 refine gA 2 (some 90) hS ?_ (hy:=by intro w hSw;obtain⟨s1,s2,s3,s4,s5,s6⟩:=hSw;go_simp;with_reducible rfl)
 refine gA 3 (some 91) hS ?_ (hy:=by intro w hSw;obtain⟨s1,s2,s3,s4,s5,s6⟩:=hSw;go_simp;with_reducible rfl)
 refine gA 4 (some 92) hS ?_ (hy:=by intro w hSw;obtain⟨s1,s2,s3,s4,s5,s6⟩:=hSw;go_simp;with_reducible rfl)
 refine gA 5 (some 93) hS ?_ (hy:=by intro w hSw;obtain⟨s1,s2,s3,s4,s5,s6⟩:=hSw;go_simp;with_reducible rfl)
 refine gT 6 kr rfl (fun K hK=>?_)
 go_simp
 refine HL.out.mono ?_
 rintro e W ⟨rfl,A', hP', hF'⟩
 obtain⟨hSW,hFw⟩:=HS.out W A' hF'
 refine hK.out _ _ hSW (fun _=>?_)
 clear hK K
 try simp only[gQ]
 refine gA 7 (some 87) hSW ?_ (hy:=by intro w hSw;obtain⟨s1,s2,s3,s4,s5,s6⟩:=hSw;(try go_simp);with_reducible rfl)
 refine gA 8 (some 95) hSW ?_ (hy:=by intro w hSw;obtain⟨s1,s2,s3,s4,s5,s6⟩:=hSw;go_simp;with_reducible rfl)
 refine gA 9 (some 96) hSW ?_ (hy:=by intro w hSw;obtain⟨s1,s2,s3,s4,s5,s6⟩:=hSw;go_simp;with_reducible rfl)
 refine gA 10 (some 12) hSW ?_ (hy:=by intro w hSw;obtain⟨s1,s2,s3,s4,s5,s6⟩:=hSw;(try go_simp);with_reducible rfl)
 refine gA 11 (some 13) hSW ?_ (hy:=by intro w hSw;obtain⟨s1,s2,s3,s4,s5,s6⟩:=hSw;(try go_simp);with_reducible rfl)
 refine wpAnyH_done kr ?_ _
 go_wp2
 go_ret
 exact⟨rfl,A', hP', hFw⟩
theorem gHw (W0:World)(gs:List Grp)(ga:Option Addr)(gl gc n:Nat)(hlay:gTz W0 gs ga gl gc n)(s:ByteArray)(a:Option Addr)(len cap:Nat)(x:DataW Unit)(w:World)(next:Nat)(A:Nat->Prop)(B:Nat)(L:List gD)
  (hE:Ex W0 (n+1) (node 5 s [x]) (.agg #[.int .i64 5,.string s,.slice a len cap])) (hS:qS gs n x) (hB:Below W0.heap.size W0 w) (hA:∀b,A b->W0.heap.size<=b)
  (hP:iA A w B (.slice ga gl gc) L)(hwf:wf L)(hn:next<L.length)(hlen:L.length+(2+qQ subs n x)<=1000000000) :
  Calls Tryz.prog 118 #[.pointer (some ⟨B,0,none⟩),.agg #[.int .i64 5,.string s,.slice a len cap],.int .i64 (next:Int)] w fun e w' => e=.returned (.int .i64 ((iI (iM gs n) [x] next L).2.2:Int))/\∃A', iA A' w' B (.slice ga gl gc) (iI (iM gs n) [x] next L).1/\Fr A w A' w' := by
 have hbase:=hB.size
 obtain⟨w3,hw3⟩:∃w3,w3=qK w B 5 s a len cap next:=⟨_,rfl⟩
 have hs3:w3.heap.size=w.heap.size+3:=by rw[hw3,mJ]
 have hb3:Below w.heap.size w w3:=by rw[hw3];exact nK ..
 have hP3:iA (fun b=>A b/\b<w.heap.size) w3 B (.slice ga gl gc) L:=hP.tight.kept (fun _ h=>h) fun b hb _=>hb3.block b hb
 have hB3:Below W0.heap.size W0 w3:=hB.trans (hb3.mono hbase)
 have hA3:∀b,A b/\b<w.heap.size->W0.heap.size<=b:=fun b h=>hA b h.1
 obtain⟨rfl,b,o,kx,sx,ax,lx,cx,rfl,hEx,hkid⟩:=gLl hE
 have HL:Hid (Calls Tryz.prog 150 #[.pointer (some ⟨B,0,none⟩),.agg #[.int .i64 kx,.string sx,.slice ax lx cx],.int .i64 (next:Int)] w3.drew fun e w' => e=.returned (.tuple #[.int .i64 ((iI (iM gs n) [x] next L).2.1:Int),.int .i64 ((iI (iM gs n) [x] next L).2.2:Int)])/\∃A', iA A' w' B (.slice ga gl gc) (iI (iM gs n) [x] next L).1/\Fr (fun b=>A b/\b<w.heap.size) w3.drew A' w') :=
  gGp W0 gs ga gl gc n hlay x _ w3.drew next (fun b=>A b/\b<w.heap.size) B L hEx hS hB3.drew hA3 (hP3.kept (fun _ h=>h) fun _ _ _=>rfl) hwf hn oo
 have HS:Hid (∀(W:World) (A' : Nat->Prop),Fr (fun b=>A b/\b<w.heap.size) w3.drew A' W->(W.cell? ⟨w.heap.size,0,none⟩=some (.pointer (some ⟨B,0,none⟩))/\W.cell? ⟨w.heap.size+1,2,none⟩=some (.slice (some ⟨b,o,none⟩) 1 cap)/\W.cell? ⟨w.heap.size+2,0,none⟩=some (.int .i64 (next:Int))/\W.cell? ⟨b,o,none⟩=some (.int .i64 kx)/\W.cell? ⟨b,o+1,none⟩=some (.string sx)/\W.cell? ⟨b,o+2,none⟩=some (.slice ax lx cx))/\Fr A w A' W):=by
  intro W A' hF
  obtain⟨d0,_,_,d3,d4⟩:=oJ (w:=w) (X:=W) (B:=B) (k:=5) (s:=s) (a:=some ⟨b,o,none⟩) (len:=1) (cap:=cap) (next:=next) (fun j hj=>by
   rw[<-hw3]
   exact hF.same _ (by show _<w3.heap.size;omega) (fun h=>by have:=h.2;omega))
  exact k61
 have hw3' : Hid (((w.alloc (.cells #[.pointer (some ⟨B,0,none⟩)] 164)).alloc (.cells #[.int .i64 5,.string s,.slice (some ⟨b,o,none⟩) 1 cap] 69)).alloc (.cells #[.int .i64 (next:Int)] 3)=w3):=hw3.symm
 generalize iI (iM gs n) [x] next L=r at *
 obtain⟨R,f1,f2⟩:=r
 simp only at *
 have hS0:=(HS.out _ _ (Fr.refl _ _)).1
 clear hP hP3 hB hB3 hE hS hlay hwf hA hA3 hEx hkid hw3 hb3
 go_enter Tryz.func118,Tryz.ntmps118
 go_wp2_with fail
 rw[hw3'.out]
 refine wp_region_held_drew (S:=fun W=>W.cell? ⟨w.heap.size,0,none⟩=some (.pointer (some ⟨B,0,none⟩))/\W.cell? ⟨w.heap.size+1,2,none⟩=some (.slice (some ⟨b,o,none⟩) 1 cap)/\W.cell? ⟨w.heap.size+2,0,none⟩=some (.int .i64 (next:Int))/\W.cell? ⟨b,o,none⟩=some (.int .i64 kx)/\W.cell? ⟨b,o+1,none⟩=some (.string sx)/\W.cell? ⟨b,o+2,none⟩=some (.slice ax lx cx)) hmx hS0 (fun hS=>?_)
 refine gA 0 (some 101) hS ?_ (hy:=by intro w hSw;obtain⟨s1,s2,s3,s4,s5,s6⟩:=hSw;go_simp;with_reducible rfl)
 refine gA 1 (some 102) hS ?_ (hy:=by intro w hSw;obtain⟨s1,s2,s3,s4,s5,s6⟩:=hSw;go_simp;with_reducible rfl)
 refine gA 2 (some 103) hS ?_ (hy:=by intro w hSw;obtain⟨s1,s2,s3,s4,s5,s6⟩:=hSw;go_simp;with_reducible rfl)
 refine gA 3 (some 104) hS ?_ (hy:=by intro w hSw;obtain⟨s1,s2,s3,s4,s5,s6⟩:=hSw;go_simp;with_reducible rfl)
 refine gA 4 (some 105) hS ?_ (hy:=by intro w hSw;obtain⟨s1,s2,s3,s4,s5,s6⟩:=hSw;go_simp;with_reducible rfl)
 refine gA 5 (some 106) hS ?_ (hy:=by intro w hSw;obtain⟨s1,s2,s3,s4,s5,s6⟩:=hSw;go_simp;with_reducible rfl)
 refine gT 6 kr rfl (fun K hK=>?_)
 go_simp
 refine HL.out.mono ?_
 rintro e W ⟨rfl,A', hP', hF'⟩
 obtain⟨hSW,hFw⟩:=HS.out W A' hF'
 refine hK.out _ _ hSW (fun _=>?_)
 clear hK K
 try simp only[gQ]
 refine gA 7 (some 100) hSW ?_ (hy:=by intro w hSw;obtain⟨s1,s2,s3,s4,s5,s6⟩:=hSw;(try go_simp);with_reducible rfl)
 refine gA 8 (some 108) hSW ?_ (hy:=by intro w hSw;obtain⟨s1,s2,s3,s4,s5,s6⟩:=hSw;go_simp;with_reducible rfl)
 refine gA 9 (some 109) hSW ?_ (hy:=by intro w hSw;obtain⟨s1,s2,s3,s4,s5,s6⟩:=hSw;go_simp;with_reducible rfl)
 refine gA 10 (some 14) hSW ?_ (hy:=by intro w hSw;obtain⟨s1,s2,s3,s4,s5,s6⟩:=hSw;(try go_simp);with_reducible rfl)
 refine gA 11 (some 15) hSW ?_ (hy:=by intro w hSw;obtain⟨s1,s2,s3,s4,s5,s6⟩:=hSw;(try go_simp);with_reducible rfl)
 refine wpAnyH_done kr ?_ _
 go_wp2
 go_ret
 exact⟨rfl,A', hP', hFw⟩
theorem gLh (W0:World)(gs:List Grp)(ga:Option Addr)(gl gc n:Nat)(hlay:gTz W0 gs ga gl gc n)(s:ByteArray)(a:Option Addr)(len cap:Nat)(x:DataW Unit)(w:World)(next:Nat)(A:Nat->Prop)(B:Nat)(L:List gD)
  (hE:Ex W0 (n+1) (node 6 s [x]) (.agg #[.int .i64 6,.string s,.slice a len cap])) (hS:qS gs n x) (hB:Below W0.heap.size W0 w) (hA:∀b,A b->W0.heap.size<=b)
  (hP:iA A w B (.slice ga gl gc) L)(hwf:wf L)(hn:next<L.length)(hlen:L.length+(2+qQ subs n x)<=1000000000) :
  Calls Tryz.prog 118 #[.pointer (some ⟨B,0,none⟩),.agg #[.int .i64 6,.string s,.slice a len cap],.int .i64 (next:Int)] w fun e w' => e=.returned (.int .i64 ((sY (iM gs n) [x] next L).2:Int))/\∃A', iA A' w' B (.slice ga gl gc) (sY (iM gs n) [x] next L).1/\Fr A w A' w' := by
 have hbase:=hB.size
 obtain⟨w3,hw3⟩:∃w3,w3=qK w B 6 s a len cap next:=⟨_,rfl⟩
 have hs3:w3.heap.size=w.heap.size+3:=by rw[hw3,mJ]
 have hb3:Below w.heap.size w w3:=by rw[hw3];exact nK ..
 have hP3:iA (fun b=>A b/\b<w.heap.size) w3 B (.slice ga gl gc) L:=hP.tight.kept (fun _ h=>h) fun b hb _=>hb3.block b hb
 have hB3:Below W0.heap.size W0 w3:=hB.trans (hb3.mono hbase)
 have hA3:∀b,A b/\b<w.heap.size->W0.heap.size<=b:=fun b h=>hA b h.1
 obtain⟨rfl,b,o,kx,sx,ax,lx,cx,rfl,hEx,hkid⟩:=gLl hE
 obtain⟨a1,a2,a3,a4,a5,a6⟩:=uQ gs n x hS next L hwf hn
 have hsn:=gIn subs n x
 have HL:Hid (Calls Tryz.prog 118 #[.pointer (some ⟨B,0,none⟩),.agg #[.int .i64 kx,.string sx,.slice ax lx cx],.int .i64 (next:Int)] w3.drew fun e w' => e=.returned (.int .i64 ((iM gs n x next L).2:Int))/\∃A', iA A' w' B (.slice ga gl gc) (iM gs n x next L).1/\Fr (fun b=>A b/\b<w.heap.size) w3.drew A' w') :=
  hlay x _ w3.drew next (fun b=>A b/\b<w.heap.size) B L hEx hS hB3.drew hA3 (hP3.kept (fun _ h=>h) fun _ _ _=>rfl) hwf hn oo
 have HS:Hid (∀(W:World) (A1 A' : Nat->Prop),(∀k,A1 k->(A k/\k<w.heap.size)\/w3.heap.size<=k)->Fr A1 w3.drew A' W->(W.cell? ⟨w.heap.size,0,none⟩=some (.pointer (some ⟨B,0,none⟩))/\W.cell? ⟨w.heap.size+1,2,none⟩=some (.slice (some ⟨b,o,none⟩) 1 cap)/\W.cell? ⟨w.heap.size+2,0,none⟩=some (.int .i64 (next:Int))/\W.cell? ⟨b,o,none⟩=some (.int .i64 kx)/\W.cell? ⟨b,o+1,none⟩=some (.string sx)/\W.cell? ⟨b,o+2,none⟩=some (.slice ax lx cx))/\Fr A w A' W):=by
  intro W A1 A' hA1 hF
  have hnot:∀k,k<w3.heap.size->¬(A k/\k<w.heap.size)->¬A1 k:=fun k hk h h1=>by
   rcases hA1 k h1 with h2 | h2
   ·exact h h2
   ·omega
  obtain⟨d0,_,_,d3,d4⟩:=oJ (w:=w) (X:=W) (B:=B) (k:=6) (s:=s) (a:=some ⟨b,o,none⟩) (len:=1) (cap:=cap) (next:=next) (fun j hj=>by
   rw[<-hw3]
   exact hF.same _ (by show _<w3.heap.size;omega) (hnot _ oo (fun h=>by have:=h.2;omega)))
  obtain⟨c0,c1,c2⟩:=hkid W (hB3.drew.trans (hF.toBelow (base:=W0.heap.size) (by show _<=w3.heap.size;omega) (fun k hk=>hnot k oo (fun h=>by have:=hA3 k h;omega))));refine⟨⟨d0,d3,d4,c0,c1,c2⟩,(Fr.of_below (A:=A) hb3.drew).trans (hF.less fun k h=>?_)⟩;rcases hA1 k h with h2 | h2
  ·exact .inl h2.1
  ·exact .inr h2
 have HF:Hid (∀(W:World) (A' : Nat->Prop),iA A' W B (.slice ga gl gc) (iM gs n x next L).1->Fr (fun b=>A b/\b<w.heap.size) w3.drew A' W →
   Fr (fun b=>A b/\b<w.heap.size) w3.drew A' (W.alloc (.cells #[.int .i64 (next:Int),.int .i64 ((iM gs n x next L).2:Int)] 3)) ∧
   Calls Tryz.prog 149 #[.pointer (some ⟨B,0,none⟩),.slice (some ⟨W.heap.size,0,none⟩) 2 2] (W.alloc (.cells #[.int .i64 (next:Int),.int .i64 ((iM gs n x next L).2:Int)] 3)) fun e w' => e=.returned (.int .i64 ((sY (iM gs n) [x] next L).2:Int))/\∃A1 A'', (∀k,A1 k->(A k/\k<w.heap.size)\/w3.heap.size<=k)/\iA A'' w' B (.slice ga gl gc) (sY (iM gs n) [x] next L).1/\Fr A1 w3.drew A'' w'):=by
  intro W A' hP' hF';have hFa:=hF'.alloc (.cells #[.int .i64 (next:Int),.int .i64 ((iM gs n x next L).2:Int)] 3);refine⟨hFa,?_⟩;have hsz:w3.heap.size<=W.heap.size:=hF'.below.size
  have:=zZ (fun k=>A' k/\k<W.heap.size) B (.slice ga gl gc) (iM gs n x next L).1 (W.alloc (.cells #[.int .i64 (next:Int),.int .i64 ((iM gs n x next L).2:Int)] 3)) [next,(iM gs n x next L).2] _ 2 2
   (hP'.tight.kept (fun _ h=>h) fun k hk _=>zzf W _ k hk) (gWs W next (iM gs n x next L).2) (fun g hg h=>by have:=pA hg;have:=h.2;omega) oo (by simp) (fun q hq=>by
    simp at hq;rcases hq with rfl | rfl
    ·omega
    ·exact a2) (by simp) (fun p=>by have:=a1.least_lt p;omega)
  refine this.mono ?_;rintro e W2 ⟨rfl,A'', hP'', hF''⟩;refine⟨rfl,fun k=>(A k/\k<w.heap.size)\/w3.heap.size<=k,A'', fun k h=>h,hP'', ?_⟩;refine(Fr.trans (A' := fun k=>(A' k/\k<W.heap.size)\/(Value.slice (some ⟨W.heap.size,0,none⟩) 2 2).ownBlock=some k) (w' := W.alloc (.cells #[.int .i64 (next:Int),.int .i64 ((iM gs n x next L).2:Int)] 3)) ?_ hF'');refine⟨hFa.below,fun k hk hn=>hFa.same k hk (fun h=>hn (.inl h)),fun k hk=>?_⟩;rcases hk with h | h
  ·rcases hFa.sub k h.1 with h1 | h1
   ·exact .inl (.inl h1)
   ·exact .inr h1
  ·have:=pA h
   exact .inr (by show w3.heap.size<=k;omega)
 have hw3' : Hid (((w.alloc (.cells #[.pointer (some ⟨B,0,none⟩)] 164)).alloc (.cells #[.int .i64 6,.string s,.slice (some ⟨b,o,none⟩) 1 cap] 69)).alloc (.cells #[.int .i64 (next:Int)] 3)=w3):=hw3.symm
 generalize sY (iM gs n) [x] next L=r at *
 generalize ((iM gs n x next L).2:Int)=f1 at *
 obtain⟨R,f2⟩:=r
 simp only at *
 have hS0:=(HS.out _ _ _ (fun k h=>.inl h) (Fr.refl (fun b=>A b/\b<w.heap.size) w3.drew)).1
 clear hP hP3 hB hB3 hE hS hlay hwf hA hA3 hEx hkid hw3 hb3 a1 a2 a3 a4 a5 a6 hsn
 go_enter Tryz.func118,Tryz.ntmps118
 go_wp2_with fail
 rw[hw3'.out]
 refine wp_region_held_drew (S:=fun W=>W.cell? ⟨w.heap.size,0,none⟩=some (.pointer (some ⟨B,0,none⟩))/\W.cell? ⟨w.heap.size+1,2,none⟩=some (.slice (some ⟨b,o,none⟩) 1 cap)/\W.cell? ⟨w.heap.size+2,0,none⟩=some (.int .i64 (next:Int))/\W.cell? ⟨b,o,none⟩=some (.int .i64 kx)/\W.cell? ⟨b,o+1,none⟩=some (.string sx)/\W.cell? ⟨b,o+2,none⟩=some (.slice ax lx cx)) hmx hS0 (fun hS=>?_)
 refine gA 0 (some 74) hS ?_ (hy:=by intro w hSw;obtain⟨s1,s2,s3,s4,s5,s6⟩:=hSw;go_simp;with_reducible rfl)
 refine gA 1 (some 75) hS ?_ (hy:=by intro w hSw;obtain⟨s1,s2,s3,s4,s5,s6⟩:=hSw;go_simp;with_reducible rfl)
 refine gA 2 (some 76) hS ?_ (hy:=by intro w hSw;obtain⟨s1,s2,s3,s4,s5,s6⟩:=hSw;go_simp;with_reducible rfl)
 refine gA 3 (some 77) hS ?_ (hy:=by intro w hSw;obtain⟨s1,s2,s3,s4,s5,s6⟩:=hSw;go_simp;with_reducible rfl)
 refine gA 4 (some 78) hS ?_ (hy:=by intro w hSw;obtain⟨s1,s2,s3,s4,s5,s6⟩:=hSw;go_simp;with_reducible rfl)
 refine gA 5 (some 79) hS ?_ (hy:=by intro w hSw;obtain⟨s1,s2,s3,s4,s5,s6⟩:=hSw;go_simp;with_reducible rfl)
 refine gA 6 (some 80) hS ?_ (hy:=by intro w hSw;obtain⟨s1,s2,s3,s4,s5,s6⟩:=hSw;go_simp;with_reducible rfl)
 refine gA 7 (some 81) hS ?_ (hy:=by intro w hSw;obtain⟨s1,s2,s3,s4,s5,s6⟩:=hSw;go_simp;with_reducible rfl)
 refine gT 8 kr rfl (fun K hK=>?_)
 go_simp
 refine HL.out.mono ?_
 rintro e W ⟨rfl,A', hP', hF'⟩
 obtain⟨hFa,HFK⟩:=HF.out W A' hP' hF'
 have hSW:=(HS.out W _ A' (fun k h=>.inl h) hF').1
 have hSa:=(HS.out _ _ A' (fun k h=>.inl h) hFa).1
 refine hK.out _ _ hSW (fun _=>?_)
 clear hK K
 try simp only[gQ]
 refine gT 9 kr rfl (fun K hK=>?_)
 go_simp
 refine hK.out _ _ hSa (fun _=>?_)
 clear hK K
 try simp only[gQ]
 refine gT 10 kr rfl (fun K hK=>?_)
 go_simp
 refine HFK.mono ?_
 rintro e W2 ⟨rfl,A1,A'', hA1,hP2,hF2⟩
 obtain⟨hS2,hFw⟩:=HS.out W2 A1 A'' hA1 hF2
 refine hK.out _ _ hS2 (fun _=>?_)
 clear hK K
 try simp only[gQ]
 refine gA 11 (some 6) hS2 ?_ (hy:=by intro w hSw;obtain⟨s1,s2,s3,s4,s5,s6⟩:=hSw;(try go_simp);with_reducible rfl)
 refine wpAnyH_done kr ?_ _
 go_wp2
 go_ret
 exact⟨rfl,A'', hP2,hFw⟩
theorem gXs (gs:List Grp)(n:Nat)(k:Int)(s:ByteArray)(ts:List (DataW Unit))(next:Nat)(L:List gD):iM gs (n+1) (node k s ts) next L =
  if k=1 then (L++[(kD gs s,[next],gG L next+1)],L.length)
  else if k=2 then iJ (iM gs n) ts.reverse next L
  else if k=3 then jH (gP (iM gs n) next ts L []).1 (gP (iM gs n) next ts L []).2
  else if k=4 then ((iI (iM gs n) ts next L).1,(iI (iM gs n) ts next L).2.1)
  else if k=5 then ((iI (iM gs n) ts next L).1,(iI (iM gs n) ts next L).2.2)
  else if k=6 then sY (iM gs n) ts next L
  else (L,next):=by
 unfold iM
 rw[lay,iN,iC,kT]
theorem gFr {gs:List Grp}{n:Nat}{k:Int}{s:ByteArray}{ts:List (DataW Unit)}(h:qS gs (n+1) (node k s ts)):(k=1->kD gs s≠0)/\(k=2\/k=3->ts≠[])/\(k=4\/k=5\/k=6->∃x,ts=[x])/\∀x∈ts,qS gs n x:=by
 unfold qS at h
 rw[gCx,iN,iC,kT] at h
 exact h
theorem gCn (n:Nat)(k:Int)(s:ByteArray)(x:DataW Unit):2+qQ subs n x<=qQ subs (n+1) (node k s [x]):=by
 rw[qQ,iC]
 simp
 omega
theorem hBo (n:Nat)(k:Int)(s:ByteArray)(ts:List (DataW Unit)){gs:List Grp}(h:∀x∈ts,qS gs n x):ts.length<=qQ subs (n+1) (node k s ts):=by
 rw[qQ,iC]
 cases n with
 | zero=>
  cases ts with
  | nil=>simp
  | cons x r=>exact(h x (zzg ..)).elim
 | succ n=>
  have:∀l:List (DataW Unit),l.length<=(l.map (qQ subs (n+1))).sum:=by
   intro l
   induction l with
   | nil=>exact zzb _
   | cons x r ih=>
    (have h1:3<=qQ subs (n+1) x:=by rw[qQ];omega);rw[List.map_cons,List.sum_cons,List.length_cons];omega
  have:=this ts
  omega
theorem gXq (W0:World)(gs:List Grp)(ga:Option Addr)(gl gc:Nat)(hG:iS W0 ga gl gs)(hgr:kB gs=true):∀n,gTz W0 gs ga gl gc n:=by
 intro n
 induction n with
 | zero=>intro t v w next A B L hE;exact hE.elim
 | succ n ih=>
  intro t v w next A B L hE hS hB hA hP hwf hn hlen;have hE' := hE;obtain⟨k,s,a,len,cap,ts,rfl,rfl,hl,hz,hk⟩:=hE;obtain⟨s1,s3,s4,sk⟩:=gFr hS;have hln:=hBo n k s ts sk;rw[gXs]
  by_cases k1:k=1
  ·subst k1
   rw[if_pos rfl];exact gHy W0 gs ga gl gc hG hgr s a len cap w next A B L hB hA hP hwf hn oo
  rw[if_neg k1]
  by_cases k2:k=2
  ·subst k2
   rw[if_pos rfl];exact gLg W0 gs ga gl gc n ih s a len cap ts w next A B L hE' (s3 (.inl rfl)) sk hB hA hP hwf hn hlen
  rw[if_neg k2]
  by_cases k3:k=3
  ·subst k3
   rw[if_pos rfl];exact gLi W0 gs ga gl gc n ih s a len cap ts w next A B L hE' (s3 (.inr rfl)) sk hB hA hP hwf hn hlen oo
  rw[if_neg k3]
  by_cases k4:k=4
  ·subst k4
   rw[if_pos rfl];obtain⟨x,rfl⟩:=s4 (.inl rfl)
   have:=gCn n 4 s x
   exact gHv W0 gs ga gl gc n ih s a len cap x w next A B L hE' (sk x (List.mem_singleton.2 rfl)) hB hA hP hwf hn oo
  rw[if_neg k4]
  by_cases k5:k=5
  ·subst k5
   rw[if_pos rfl];obtain⟨x,rfl⟩:=s4 (.inr (.inl rfl))
   have:=gCn n 5 s x
   exact gHw W0 gs ga gl gc n ih s a len cap x w next A B L hE' (sk x (List.mem_singleton.2 rfl)) hB hA hP hwf hn oo
  rw[if_neg k5]
  by_cases k6:k=6
  ·subst k6
   rw[if_pos rfl];obtain⟨x,rfl⟩:=s4 (.inr (.inr rfl))
   have:=gCn n 6 s x
   exact gLh W0 gs ga gl gc n ih s a len cap x w next A B L hE' (sk x (List.mem_singleton.2 rfl)) hB hA hP hwf hn oo
  rw[if_neg k6];exact gHx W0 ga gl gc k oo s a len cap w next A B L hB hP
end Go.Proofs.YtjkebndkeamijaaGreatDoor
namespace Go.Proofs.YtjkebndkeamijaaGreatDoor
section
variable {T:Type} (K:T->Int) (M:T->Nat) (U:T->List T)
def gIf (f:T->List Int->Prop):List T->List Int->Prop
 | [],w=>w=[]
 | x::r,w=>∃u v,w=u++v/\f x u/\gIf f r v
def gBx (f:List Int->Prop):Nat->List Int->Prop
 | 0,w=>w=[]
 | m+1,w=>∃u v,w=u++v/\f u/\gBx f m v
def qE:Nat->T->List Int->Prop
 | 0,_,_=>False
 | n+1,t,w=>
  if K t=1 then ∃a,w=[a]/\mW (M t) a=true
  else if K t=2 then gIf (qE n) (U t) w
  else if K t=3 then ∃x∈U t,qE n x w
  else if K t=4 then ∃m,gBx (fun v=>∃x∈U t,qE n x v) m w
  else if K t=5 then ∃m,gBx (fun v=>∃x∈U t,qE n x v) (m+1) w
  else if K t=6 then w=[]\/∃x∈U t,qE n x w
  else w=[]
def gAh (F L:List gD)(a b:Nat):Prop:=∀p,a<=p->p<b->F[p]? = L[p]?
def gUy (f:T->Nat->List gD->List gD×Nat)(g:T->List Int->Prop)(F:List gD)(x:T):Prop :=
 ∀next L,wf L->next<L.length->gAh F (f x next L).1 L.length (f x next L).1.length->∀k w,jZ F k (f x next L).2 w->∃u v k', k' <= k/\w=u++v/\g x u/\jZ F k' next v
def hFs (f:T->Nat->List gD->List gD×Nat)(g:T->List Int->Prop)(F:List gD)(x:T):Prop :=
 ∀next L,wf L->next<L.length->gAh F (f x next L).1 L.length (f x next L).1.length->∀u v k,g x u->jZ F k next v->∃k', jZ F k' (f x next L).2 (u++v)
theorem gJz (f:T->List Int->Prop):∀(l:List T) (x:T) (w:List Int),gIf f (l++[x]) w↔∃u v,w=u++v/\gIf f l u/\f x v:=by
 intro l
 induction l with
 | nil=>
  intro x w
  constructor
  ·rintro⟨u,v,rfl,h1,h2⟩
   rw[gIf] at h2;subst h2;exact⟨[],u,by simp,rfl,h1⟩
  ·rintro⟨u,v,rfl,h1,h2⟩
   rw[gIf] at h1;subst h1;exact⟨v,[],by simp,h2,rfl⟩
 | cons y r ih=>
  intro x w
  constructor
  ·rintro⟨u,v,rfl,h1,h2⟩
   obtain⟨a,b,rfl,h3,h4⟩:=(ih x v).1 h2;exact⟨u++a,b,by simp,⟨u,a,rfl,h1,h3⟩,h4⟩
  ·rintro⟨u,v,rfl,⟨a,b,rfl,h1,h2⟩,h3⟩
   exact⟨a,b++v,by simp,h1,(ih x (b++v)).2 ⟨b,v,rfl,h2,h3⟩⟩
variable {f:T->Nat->List gD->List gD×Nat} {g:T->List Int->Prop} {sz:T->Nat} {F:List gD}
theorem jZ.at_fork {k p:Nat}{w:List Int}{x:gD}(hp:0<p)(hx:F[p]? = some x)(h0:x.1=0)(h:jZ F k p w):∃q∈x.2.1,∃k', k' < k/\jZ F k' q w:=by
 cases k with
 | zero=>obtain⟨rfl,_⟩:=h;omega
 | succ k=>
  rcases h with ⟨rfl,_⟩ | ⟨y,hy,h⟩
  ·omega
  ·rw[hx] at hy
   cases hy;rcases h with ⟨_,q,hq,hr⟩ | ⟨h1,_⟩
   ·exact⟨q,hq,k,Nat.lt_succ_self _,hr⟩
   ·exact absurd h0 h1
theorem jZ.by_fork {k p q:Nat}{w:List Int}{x:gD}(hx:F[p]? = some x)(h0:x.1=0)(hq:q∈x.2.1)(h:jZ F k q w):jZ F (k+1) p w :=
 .inr ⟨x,hx,.inl ⟨h0,q,hq,h⟩⟩
theorem gLj:∀(l:List T),(∀x∈l,vY f sz x)->(∀x∈l,gUy f g F x)->∀next L,wf L->next<L.length->gAh F (iJ f l next L).1 L.length (iJ f l next L).1.length →
  ∀k w,jZ F k (iJ f l next L).2 w->∃u v k', k' <= k/\w=u++v/\gIf g l.reverse u/\jZ F k' next v:=by
 intro l
 induction l with
 | nil=>intro _ _ next L _ _ _ k w h;exact⟨[],w,k,zzb _,rfl,rfl,h⟩
 | cons x r ih=>
  intro hg hs next L hL hn hF k w h;obtain⟨a1,a2,a3,a4,a5,a6⟩:=hg x (zzg ..) next L hL hn;obtain⟨b1,b2,b3,b4,b5,b6⟩:=tZ r (fun y hy=>hg y (zzk _ hy)) (f x next L).2 (f x next L).1 a1 a2;rw[iJ] at hF h;obtain⟨u,v,k', hk,rfl,hu,hv⟩:=ih (fun y hy=>hg y (zzk _ hy)) (fun y hy=>hs y (zzk _ hy)) _ _ a1 a2 (fun p h1 h2=>hF p oo h2) k w h;obtain⟨u', v', k'', hk', rfl,hu', hv'⟩:=hs x (zzg ..) next L hL hn (fun p h1 h2=>(hF p h1 oo).trans (b4 p h2)) k' v hv;rw[List.reverse_cons];exact⟨u++u', v', k'', by omega,by simp,(gJz g _ _ _).2 ⟨u,u', rfl,hu,hu'⟩,hv'⟩
theorem gOw:∀(l:List T),(∀x∈l,vY f sz x)->(∀x∈l,hFs f g F x)->∀next L,wf L->next<L.length->gAh F (iJ f l next L).1 L.length (iJ f l next L).1.length →
  ∀u v k,gIf g l.reverse u->jZ F k next v->∃k', jZ F k' (iJ f l next L).2 (u++v):=by
 intro l
 induction l with
 | nil=>intro _ _ next L _ _ _ u v k hu hv;rw[List.reverse_nil,gIf] at hu;subst hu;exact⟨k,hv⟩
 | cons x r ih=>
  intro hg hs next L hL hn hF u v k hu hv;obtain⟨a1,a2,a3,a4,a5,a6⟩:=hg x (zzg ..) next L hL hn;obtain⟨b1,b2,b3,b4,b5,b6⟩:=tZ r (fun y hy=>hg y (zzk _ hy)) (f x next L).2 (f x next L).1 a1 a2;rw[iJ] at hF ⊢;rw[List.reverse_cons] at hu;obtain⟨u1,u2,rfl,h1,h2⟩:=(gJz g _ _ _).1 hu;obtain⟨k1,hk1⟩:=hs x (zzg ..) next L hL hn (fun p h1 h2=>(hF p h1 oo).trans (b4 p h2)) u2 v k h2 hv;obtain⟨k2,hk2⟩:=ih (fun y hy=>hg y (zzk _ hy)) (fun y hy=>hs y (zzk _ hy)) _ _ a1 a2 (fun p h1 h2=>hF p oo h2) u1 (u2++v) k1 h1 hk1;exact⟨k2,by rw[List.append_assoc];exact hk2⟩
theorem gGq (next:Nat):∀(l:List T),(∀x∈l,vY f sz x)->∀(L:List gD) (ways:List Nat),wf L->next<L.length->gAh F (gP f next l L ways).1 L.length (gP f next l L ways).1.length →
  (∀q∈(gP f next l L ways).2,q∈ways\/∃x∈l,∃L', wf L' /\ next<L'.length/\gAh F (f x next L').1 L'.length (f x next L').1.length/\q=(f x next L').2) ∧
  (∀q∈ways,q∈(gP f next l L ways).2)/\(∀x∈l,∃L', wf L' /\ next<L'.length/\gAh F (f x next L').1 L'.length (f x next L').1.length/\(f x next L').2∈(gP f next l L ways).2):=by
 intro l
 induction l with
 | nil=>intro _ L ways _ _ _;exact⟨fun q hq=>.inl hq,fun q hq=>hq,fun x hx=>by cases hx⟩
 | cons x r ih=>
  intro hg L ways hL hn hF;obtain⟨a1,a2,a3,a4,a5,a6⟩:=hg x (zzg ..) next L hL hn;rw[gP] at hF ⊢
  have hlen:(f x next L).1.length<=(gP f next r (f x next L).1 (ways++[(f x next L).2])).1.length/\∀p,p<(f x next L).1.length->(gP f next r (f x next L).1 (ways++[(f x next L).2])).1[p]? = (f x next L).1[p]?:=by
   have:∀(l:List T),(∀y∈l,vY f sz y)->∀(L:List gD) (ws:List Nat),wf L->next<L.length->L.length<=(gP f next l L ws).1.length/\∀p,p<L.length->(gP f next l L ws).1[p]? = L[p]?:=by
    intro l
    induction l with
    | nil=>intro _ L ws _ _;exact⟨zzb _,fun _ _=>rfl⟩
    | cons y r ih2=>
     intro hg L ws hL hn;obtain⟨a1,a2,a3,a4,a5,a6⟩:=hg y (zzg ..) next L hL hn;rw[gP];obtain⟨c1,c2⟩:=ih2 (fun z hz=>hg z (zzk _ hz)) (f y next L).1 (ws++[(f y next L).2]) a1 oo;exact⟨oo,fun p hp=>(c2 p oo).trans (a4 p hp)⟩
   exact this r (fun y hy=>hg y (zzk _ hy)) _ _ a1 oo
  obtain⟨l1,l2⟩:=hlen;(have hFx:gAh F (f x next L).1 L.length (f x next L).1.length:=fun p h1 h2=>(hF p h1 oo).trans (l2 p h2));obtain⟨b1,b2,b3⟩:=ih (fun y hy=>hg y (zzk _ hy)) (f x next L).1 (ways++[(f x next L).2]) a1 oo (fun p h1 h2=>hF p oo h2);refine⟨fun q hq=>?_,fun q hq=>b2 q (List.mem_append_left _ hq),fun y hy=>?_⟩
  ·rcases b1 q hq with h | ⟨y,hy,h⟩
   ·rcases List.mem_append.1 h with h | h
    ·exact .inl h
    ·simp at h
     exact .inr ⟨x,zzg ..,L,hL,hn,hFx,h⟩
   ·exact .inr ⟨y,zzk _ hy,h⟩
  ·rcases List.mem_cons.1 hy with rfl | hy
   ·exact⟨L,hL,hn,hFx,b2 _ (by simp)⟩
   ·exact b3 y hy
theorem yO {x:T}(hg:vY f sz x){next:Nat}{L:List gD}(hL:wf L)(hn:next<L.length)(hF:gAh F (iI f [x] next L).1 L.length (iI f [x] next L).1.length) :
  wf (jH L [next]).1/\L.length<(jH L [next]).1.length/\gAh F (f x L.length (jH L [next]).1).1 (jH L [next]).1.length (f x L.length (jH L [next]).1).1.length/\F[L.length]? = some (0,[next,(f x L.length (jH L [next]).1).2],lF L [next]):=by
 obtain⟨c1,c2,c3,c4,c5⟩:=uR hL (ways:=[next]) (by simp) (by simpa using hn) (m:=gG L next) (by simp)
 obtain⟨a1,a2,a3,a4,a5,a6⟩:=hg L.length (jH L [next]).1 c1 oo
 rw[iI] at hF
 refine⟨c1,oo,fun p h1 h2=>?_,?_⟩
 ·rw[hF p oo (by rw[kF];exact h2)]
  exact pO oo
 ·rw[hF L.length (zzb _) (by rw[kF];omega)]
  exact tJ ((a4 _ oo).trans jR)
theorem gGo {x:T}(hg:vY f sz x)(hs:gUy f g F x){next:Nat}{L:List gD}(hL:wf L)(hn:next<L.length)(hF:gAh F (iI f [x] next L).1 L.length (iI f [x] next L).1.length) :
  ∀k w,jZ F k L.length w->∃m u v k', k' <= k/\w=u++v/\gBx (g x) m u/\jZ F k' next v:=by
 obtain⟨c1,c2,c3,c4⟩:=yO hg hL hn hF
 have hpos:=hL.pos
 intro k
 induction k using Nat.strongRecOn with
 | _ k ih=>
  intro w h;obtain⟨q,hq,k1,hk1,hr⟩:=h.at_fork hpos c4 rfl;simp at hq;rcases hq with rfl | rfl
  ·exact⟨0,[],w,k1,oo,rfl,rfl,hr⟩
  ·obtain⟨u,v,k2,hk2,rfl,hu,hv⟩:=hs L.length _ c1 c2 c3 k1 w hr
   obtain⟨m,u', v', k3,hk3,rfl,hu', hv'⟩:=ih k2 oo v hv;exact⟨m+1,u++u', v', k3,oo,by simp,⟨u,u', rfl,hu,hu'⟩,hv'⟩
theorem gIy {x:T}(hg:vY f sz x)(hs:hFs f g F x){next:Nat}{L:List gD}(hL:wf L)(hn:next<L.length)(hF:gAh F (iI f [x] next L).1 L.length (iI f [x] next L).1.length) :
  ∀m u v k,gBx (g x) m u->jZ F k next v->∃k', jZ F k' L.length (u++v):=by
 obtain⟨c1,c2,c3,c4⟩:=yO hg hL hn hF
 intro m
 induction m with
 | zero=>
  intro u v k hu hv;rw[gBx] at hu;subst hu;exact⟨k+1,jZ.by_fork (q:=next) c4 rfl (by simp) hv⟩
 | succ m ih=>
  rintro u v k ⟨u1,u2,rfl,h1,h2⟩ hv;obtain⟨k1,hk1⟩:=ih u2 v k h2 hv;obtain⟨k2,hk2⟩:=hs L.length _ c1 c2 c3 u1 (u2++v) k1 h1 hk1;exact⟨k2+1,jZ.by_fork (q:=(f x L.length (jH L [next]).1).2) c4 rfl (by simp) (by rw[List.append_assoc];exact hk2)⟩
theorem gCl {x:T}{p:T->Prop}:(∃y∈[x],p y)↔p x:=by simp
theorem gXp:∀(n:Nat) (t:T),gCx K M U n t->gUy (lay K M U n) (qE K M U n) F t:=by
 intro n
 induction n with
 | zero=>intro t h;exact h.elim
 | succ n ih=>
  intro t hS next L hL hn hF k w hr;have hG:=uO K M U (n+1) t hS next L hL hn;obtain⟨s1,s3,s4,sk⟩:=hS;(have hk:∀x∈U t,vY (lay K M U n) (size U n) x:=fun x hx=>uO K M U n x (sk x hx));(have hs:∀x∈U t,gUy (lay K M U n) (qE K M U n) F x:=fun x hx=>ih x (sk x hx));have hpos:=hL.pos;rw[lay] at hF hr hG;simp only[qE]
  by_cases k1:K t=1
  ·rw[if_pos k1] at hF hr hG
   simp only[if_pos k1];have hx:F[L.length]? = some (M t,[next],gG L next+1):=(hF L.length (zzb _) (by simp)).trans jR;cases k with
   | zero=>obtain⟨e,_⟩:=hr;simp at e;simp[e] at hpos
   | succ k=>
    rcases hr with ⟨e,_⟩ | ⟨y,hy,h⟩
    ·simp at e;simp[e] at hpos
    ·have hy' : F[L.length]? = some y:=hy
     rw[hx] at hy';cases hy';rcases h with ⟨h0,_⟩ | ⟨_,a,v,q,rfl,ha,hq,hv⟩
     ·exact absurd h0 (s1 k1)
     ·simp at hq
      subst hq;exact⟨[a],v,k,Nat.le_succ _,rfl,⟨a,rfl,ha⟩,hv⟩
  rw[if_neg k1] at hF hr hG;simp only[if_neg k1]
  by_cases k2:K t=2
  ·rw[if_pos k2] at hF hr hG
   simp only[if_pos k2];obtain⟨u,v,k', h1,h2,h3,h4⟩:=gLj (U t).reverse (fun x hx=>hk x (List.mem_reverse.1 hx)) (fun x hx=>hs x (List.mem_reverse.1 hx)) next L hL hn hF k w hr;rw[List.reverse_reverse] at h3;exact⟨u,v,k', h1,h2,h3,h4⟩
  rw[if_neg k2] at hF hr hG;simp only[if_neg k2]
  by_cases k3:K t=3
  ·rw[if_pos k3] at hF hr hG
   simp only[if_pos k3];obtain⟨b1,b2,b3,b4,b5,b6⟩:=uA next (U t) hk L [] hL hn (fun q hq=>by cases hq);(have hlen:(jH (gP (lay K M U n) next (U t) L []).1 (gP (lay K M U n) next (U t) L []).2).1.length=(gP (lay K M U n) next (U t) L []).1.length+1:=by simp[jH]);have hx:F[(gP (lay K M U n) next (U t) L []).1.length]? = some (0,(gP (lay K M U n) next (U t) L []).2,lF (gP (lay K M U n) next (U t) L []).1 (gP (lay K M U n) next (U t) L []).2):=(hF _ oo oo).trans jR;obtain⟨q,hq,k1', hk1,hr'⟩:=jZ.at_fork (p:=(gP (lay K M U n) next (U t) L []).1.length) oo hx rfl hr;(have hF' : gAh F (gP (lay K M U n) next (U t) L []).1 L.length (gP (lay K M U n) next (U t) L []).1.length:=fun p h1 h2=>(hF p h1 oo).trans (lB h2));rcases (gGq next (U t) hk L [] hL hn hF').1 q hq with h | ⟨x,hx,L', d1,d2,d3,rfl⟩
   ·cases h
   ·obtain⟨u,v,k', h1,h2,h3,h4⟩:=hs x hx next L' d1 d2 d3 k1' w hr'
    exact⟨u,v,k', by omega,h2,⟨x,hx,h3⟩,h4⟩
  rw[if_neg k3] at hF hr hG;simp only[if_neg k3]
  by_cases k4:K t=4
  ·rw[if_pos k4] at hF hr hG
   simp only[if_pos k4];obtain⟨x,hx⟩:=s4 (.inl k4);rw[hx] at hF hr hG hk hs ⊢;simp only[gCl];obtain⟨m,u,v,k', h1,h2,h3,h4⟩:=gGo (hk x (List.mem_singleton.2 rfl)) (hs x (List.mem_singleton.2 rfl)) hL hn hF k w hr;exact⟨u,v,k', h1,h2,⟨m,h3⟩,h4⟩
  rw[if_neg k4] at hF hr hG;simp only[if_neg k4]
  by_cases k5:K t=5
  ·rw[if_pos k5] at hF hr hG
   simp only[if_pos k5];obtain⟨x,hx⟩:=s4 (.inr (.inl k5));rw[hx] at hF hr hG hk hs ⊢;simp only[gCl];obtain⟨c1,c2,c3,c4⟩:=yO (hk x (List.mem_singleton.2 rfl)) hL hn hF;obtain⟨u,v,k1', hk1,rfl,hu,hv⟩:=hs x (List.mem_singleton.2 rfl) L.length _ c1 c2 c3 k w hr;obtain⟨m,u', v', k', h1,rfl,h3,h4⟩:=gGo (hk x (List.mem_singleton.2 rfl)) (hs x (List.mem_singleton.2 rfl)) hL hn hF k1' v hv;exact⟨u++u', v', k', by omega,by simp,⟨m,u,u', rfl,hu,h3⟩,h4⟩
  rw[if_neg k5] at hF hr hG;simp only[if_neg k5]
  by_cases k6:K t=6
  ·rw[if_pos k6] at hF hr hG
   simp only[if_pos k6];obtain⟨x,hx⟩:=s4 (.inr (.inr k6));rw[hx] at hF hr hG hk hs ⊢;simp only[gCl];rw[sY] at hF hr;obtain⟨a1,a2,a3,a4,a5,a6⟩:=hk x (List.mem_singleton.2 rfl) next L hL hn;(have hlen:(jH (lay K M U n x next L).1 [next,(lay K M U n x next L).2]).1.length=(lay K M U n x next L).1.length+1:=by simp[jH]);have hat:F[(lay K M U n x next L).1.length]? = some (0,[next,(lay K M U n x next L).2],lF (lay K M U n x next L).1 [next,(lay K M U n x next L).2]):=(hF _ oo oo).trans jR;obtain⟨q,hq,k1', hk1,hr'⟩:=jZ.at_fork (p:=(lay K M U n x next L).1.length) oo hat rfl hr;simp at hq;rcases hq with rfl | rfl
   ·exact⟨[],w,k1', by omega,rfl,.inl rfl,hr'⟩
   ·obtain⟨u,v,k', h1,h2,h3,h4⟩:=hs x (List.mem_singleton.2 rfl) next L hL hn (fun p h1 h2=>(hF p h1 oo).trans (lB h2)) k1' w hr'
    exact⟨u,v,k', by omega,h2,.inr h3,h4⟩
  rw[if_neg k6] at hF hr hG;simp only[if_neg k6];exact⟨[],w,k,zzb _,rfl,rfl,hr⟩
theorem hCc:∀(n:Nat) (t:T),gCx K M U n t->hFs (lay K M U n) (qE K M U n) F t:=by
 intro n
 induction n with
 | zero=>intro t h;exact h.elim
 | succ n ih=>
  intro t hS next L hL hn hF u v k hu hv;have hG:=uO K M U (n+1) t hS next L hL hn;obtain⟨s1,s3,s4,sk⟩:=hS;(have hk:∀x∈U t,vY (lay K M U n) (size U n) x:=fun x hx=>uO K M U n x (sk x hx));(have hs:∀x∈U t,hFs (lay K M U n) (qE K M U n) F x:=fun x hx=>ih x (sk x hx));have hpos:=hL.pos;rw[lay] at hF hG ⊢;rw[qE] at hu
  by_cases k1:K t=1
  ·rw[if_pos k1] at hF hG hu ⊢
   obtain⟨a,rfl,ha⟩:=hu;exact⟨k+1,.inr ⟨_,(hF L.length (zzb _) (by simp)).trans jR,.inr ⟨s1 k1,a,v,next,rfl,ha,rfl,hv⟩⟩⟩
  rw[if_neg k1] at hF hG hu ⊢
  by_cases k2:K t=2
  ·rw[if_pos k2] at hF hG hu ⊢
   exact gOw (U t).reverse (fun x hx=>hk x (List.mem_reverse.1 hx)) (fun x hx=>hs x (List.mem_reverse.1 hx)) next L hL hn hF u v k (by rw[List.reverse_reverse];exact hu) hv
  rw[if_neg k2] at hF hG hu ⊢
  by_cases k3:K t=3
  ·rw[if_pos k3] at hF hG hu ⊢
   obtain⟨b1,b2,b3,b4,b5,b6⟩:=uA next (U t) hk L [] hL hn (fun q hq=>by cases hq);(have hlen:(jH (gP (lay K M U n) next (U t) L []).1 (gP (lay K M U n) next (U t) L []).2).1.length=(gP (lay K M U n) next (U t) L []).1.length+1:=by simp[jH]);have hx:F[(gP (lay K M U n) next (U t) L []).1.length]? = some (0,(gP (lay K M U n) next (U t) L []).2,lF (gP (lay K M U n) next (U t) L []).1 (gP (lay K M U n) next (U t) L []).2):=(hF _ oo oo).trans jR;(have hF' : gAh F (gP (lay K M U n) next (U t) L []).1 L.length (gP (lay K M U n) next (U t) L []).1.length:=fun p h1 h2=>(hF p h1 oo).trans (lB h2));obtain⟨x,hxm,hxu⟩:=hu;obtain⟨L', d1,d2,d3,d4⟩:=(gGq next (U t) hk L [] hL hn hF').2.2 x hxm;obtain⟨k1', hk1⟩:=hs x hxm next L' d1 d2 d3 u v k hxu hv;exact⟨k1' + 1,jZ.by_fork hx rfl d4 hk1⟩
  rw[if_neg k3] at hF hG hu ⊢
  by_cases k4:K t=4
  ·rw[if_pos k4] at hF hG hu ⊢
   obtain⟨x,hx⟩:=s4 (.inl k4);rw[hx] at hF hG hk hs hu ⊢;simp only[gCl] at hu;obtain⟨m,hm⟩:=hu;exact gIy (hk x (List.mem_singleton.2 rfl)) (hs x (List.mem_singleton.2 rfl)) hL hn hF m u v k hm hv
  rw[if_neg k4] at hF hG hu ⊢
  by_cases k5:K t=5
  ·rw[if_pos k5] at hF hG hu ⊢
   obtain⟨x,hx⟩:=s4 (.inr (.inl k5));rw[hx] at hF hG hk hs hu ⊢;simp only[gCl] at hu;obtain⟨m,u1,u2,rfl,h1,h2⟩:=hu;obtain⟨c1,c2,c3,c4⟩:=yO (hk x (List.mem_singleton.2 rfl)) hL hn hF;obtain⟨k1', hk1⟩:=gIy (hk x (List.mem_singleton.2 rfl)) (hs x (List.mem_singleton.2 rfl)) hL hn hF m u2 v k h2 hv;rw[List.append_assoc];exact hs x (List.mem_singleton.2 rfl) L.length _ c1 c2 c3 u1 (u2++v) k1' h1 hk1
  rw[if_neg k5] at hF hG hu ⊢
  by_cases k6:K t=6
  ·rw[if_pos k6] at hF hG hu ⊢
   obtain⟨x,hx⟩:=s4 (.inr (.inr k6));rw[hx] at hF hG hk hs hu ⊢;simp only[gCl] at hu;rw[sY] at hF ⊢;obtain⟨a1,a2,a3,a4,a5,a6⟩:=hk x (List.mem_singleton.2 rfl) next L hL hn;(have hlen:(jH (lay K M U n x next L).1 [next,(lay K M U n x next L).2]).1.length=(lay K M U n x next L).1.length+1:=by simp[jH]);have hat:F[(lay K M U n x next L).1.length]? = some (0,[next,(lay K M U n x next L).2],lF (lay K M U n x next L).1 [next,(lay K M U n x next L).2]):=(hF _ oo oo).trans jR;rcases hu with rfl | hu
   ·exact⟨k+1,jZ.by_fork (q:=next) hat rfl (by simp) hv⟩
   ·obtain⟨k1', hk1⟩:=hs x (List.mem_singleton.2 rfl) next L hL hn (fun p h1 h2=>(hF p h1 oo).trans (lB h2)) u v k hu hv
    exact⟨k1' + 1,jZ.by_fork (q:=(lay K M U n x next L).2) hat rfl (by simp) hk1⟩
  rw[if_neg k6] at hF hG hu ⊢;subst hu;exact⟨k,hv⟩
end
end Go.Proofs.YtjkebndkeamijaaGreatDoor
