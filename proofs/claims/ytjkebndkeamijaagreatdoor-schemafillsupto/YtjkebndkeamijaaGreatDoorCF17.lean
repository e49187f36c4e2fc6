/-
  PROVED HERE: what the texts DFLayRest, DFLayAll, DFSets0 say.
-/
import Derived.Test.YtjkebndkeamijaaGreatDoorCF16
import Derived.Test.YtjkebndkeamijaaGreatDoorCFDFLang
set_option maxRecDepth 100000
set_option maxHeartbeats 2000000
namespace Go.Proofs.YtjkebndkeamijaaGreatDoor
open Go.RowKit
theorem laynone_calls (W0:World)(ga:Option Addr)(gl gc:Nat)(k:Int)(hk:k<1\/6<k)(s:ByteArray)(a:Option Addr)(len cap:Nat)(w:World)(next:Nat)(A:Nat->Prop)(B:Nat)(L:List Place)(hB:Below W0.heap.size W0 w)(hP:PlanIn A w B (.slice ga gl gc) L) :
  Calls Tryz.prog 118 #[.pointer (some ⟨B,0,none⟩),.agg #[.int .i64 k,.string s,.slice a len cap],.int .i64 (next:Int)] w fun e w' => e=.returned (.int .i64 (next:Int))/\∃A', PlanIn A' w' B (.slice ga gl gc) L/\Fr A w A' w' := by
 have hbase:=hB.size
 have HE:Hid (∃A', PlanIn A' (laid3 w B k s a len cap next) B (.slice ga gl gc) L/\Fr A w A' (laid3 w B k s a len cap next)):=⟨A,hP.kept (fun _ h=>h) fun b hb _=>(laid3_below ..).block b hb,Fr.of_below (laid3_below ..)⟩
 have e1:(k==1)=false:=by rw[beq_eq_false_iff_ne];omega
 have e2:(k==2)=false:=by rw[beq_eq_false_iff_ne];omega
 have e3:(k==3)=false:=by rw[beq_eq_false_iff_ne];omega
 have e4:(k==4)=false:=by rw[beq_eq_false_iff_ne];omega
 have e5:(k==5)=false:=by rw[beq_eq_false_iff_ne];omega
 have e6:(k==6)=false:=by rw[beq_eq_false_iff_ne];omega
 unfold laid3 at HE
 clear hP hB hk
 go_enter Tryz.func118,Tryz.ntmps118
 go_wp2
 go_ret
 exact⟨rfl,HE.out⟩
theorem kid_one {W0:World}{n:Nat}{k:Int}{s:ByteArray}{x:DataW Unit}{a:Option Addr}{len cap:Nat}(hE:Ex W0 (n+1) (node k s [x]) (.agg #[.int .i64 k,.string s,.slice a len cap])):len=1/\∃b o kx sx ax lx cx,a=some ⟨b,o,none⟩/\Ex W0 n x (.agg #[.int .i64 kx,.string sx,.slice ax lx cx]) ∧
  ∀W:World,Below W0.heap.size W0 W->W.cell? ⟨b,o,none⟩=some (.int .i64 kx)/\W.cell? ⟨b,o+1,none⟩=some (.string sx)/\W.cell? ⟨b,o+2,none⟩=some (.slice ax lx cx):=by
 obtain⟨k', s', a', len', cap', ts', hnode,hv,hl,hz,hk⟩:=hE
 obtain⟨rfl,rfl,rfl⟩:=node_inj.1 hnode
 obtain⟨rfl,rfl,rfl⟩:a=a' /\ len=len' /\ cap=cap' := by
  have:=Array.toList_inj.2 (Value.agg.inj hv)
  simp only[List.cons.injEq,Value.slice.injEq,and_true,true_and] at this;exact this
 have hlen:len=1:=by simpa using hl.symm
 obtain⟨b,o,y,kx,sx,ax,lx,cx,e,hlt,hy,hc⟩:=kid_at hl hk (i:=0) oo
 obtain rfl:x=y:=by simpa using hy
 refine⟨hlen,b,o,kx,sx,ax,lx,cx,e,(hc W0 (zzd _ _)).2.2.2,fun W hW=>?_⟩
 obtain⟨c0,c1,c2,_⟩:=hc W hW
 simp only[Nat.zero_mul,Nat.add_zero] at c0 c1 c2
 exact⟨c0,c1,c2⟩
theorem k45{p:Prop}(h:p:=by
  obtain⟨c0,c1,c2⟩:=hkid W (hB3.drew.trans (hF.toBelow (base:=W0.heap.size) (by show _<=w3.heap.size;omega) (fun k hk h=>by have:=hA3 k h;omega)));refine⟨⟨d0,d3,d4,c0,c1,c2⟩,((Fr.of_below (A:=A) hb3.drew).trans (hF.wide (A:=A) fun k h=>h.1))⟩
  ):p:=h
theorem laystar_calls (W0:World)(gs:List Grp)(ga:Option Addr)(gl gc n:Nat)(hlay:LayC W0 gs ga gl gc n)(s:ByteArray)(a:Option Addr)(len cap:Nat)(x:DataW Unit)(w:World)(next:Nat)(A:Nat->Prop)(B:Nat)(L:List Place)
  (hE:Ex W0 (n+1) (node 4 s [x]) (.agg #[.int .i64 4,.string s,.slice a len cap])) (hS:SaneD gs n x) (hB:Below W0.heap.size W0 w) (hA:∀b,A b->W0.heap.size<=b)
  (hP:PlanIn A w B (.slice ga gl gc) L)(hwf:wf L)(hn:next<L.length)(hlen:L.length+(2+need subs n x)<=1000000000) :
  Calls Tryz.prog 118 #[.pointer (some ⟨B,0,none⟩),.agg #[.int .i64 4,.string s,.slice a len cap],.int .i64 (next:Int)] w fun e w' => e=.returned (.int .i64 ((layLoop (layD gs n) [x] next L).2.1:Int))/\∃A', PlanIn A' w' B (.slice ga gl gc) (layLoop (layD gs n) [x] next L).1/\Fr A w A' w' := by
 have hbase:=hB.size
 obtain⟨w3,hw3⟩:∃w3,w3=laid3 w B 4 s a len cap next:=⟨_,rfl⟩
 have hs3:w3.heap.size=w.heap.size+3:=by rw[hw3,laid3_size]
 have hb3:Below w.heap.size w w3:=by rw[hw3];exact laid3_below ..
 have hP3:PlanIn (fun b=>A b/\b<w.heap.size) w3 B (.slice ga gl gc) L:=hP.tight.kept (fun _ h=>h) fun b hb _=>hb3.block b hb
 have hB3:Below W0.heap.size W0 w3:=hB.trans (hb3.mono hbase)
 have hA3:∀b,A b/\b<w.heap.size->W0.heap.size<=b:=fun b h=>hA b h.1
 obtain⟨rfl,b,o,kx,sx,ax,lx,cx,rfl,hEx,hkid⟩:=kid_one hE
 have HL:Hid (Calls Tryz.prog 150 #[.pointer (some ⟨B,0,none⟩),.agg #[.int .i64 kx,.string sx,.slice ax lx cx],.int .i64 (next:Int)] w3.drew fun e w' => e=.returned (.tuple #[.int .i64 ((layLoop (layD gs n) [x] next L).2.1:Int),.int .i64 ((layLoop (layD gs n) [x] next L).2.2:Int)])/\∃A', PlanIn A' w' B (.slice ga gl gc) (layLoop (layD gs n) [x] next L).1/\Fr (fun b=>A b/\b<w.heap.size) w3.drew A' w') :=
  loop_calls W0 gs ga gl gc n hlay x _ w3.drew next (fun b=>A b/\b<w.heap.size) B L hEx hS hB3.drew hA3 (hP3.kept (fun _ h=>h) fun _ _ _=>rfl) hwf hn oo
 have HS:Hid (∀(W:World) (A' : Nat->Prop),Fr (fun b=>A b/\b<w.heap.size) w3.drew A' W->(W.cell? ⟨w.heap.size,0,none⟩=some (.pointer (some ⟨B,0,none⟩))/\W.cell? ⟨w.heap.size+1,2,none⟩=some (.slice (some ⟨b,o,none⟩) 1 cap)/\W.cell? ⟨w.heap.size+2,0,none⟩=some (.int .i64 (next:Int))/\W.cell? ⟨b,o,none⟩=some (.int .i64 kx)/\W.cell? ⟨b,o+1,none⟩=some (.string sx)/\W.cell? ⟨b,o+2,none⟩=some (.slice ax lx cx))/\Fr A w A' W):=by
  intro W A' hF
  obtain⟨d0,_,_,d3,d4⟩:=laid3_cells (w:=w) (X:=W) (B:=B) (k:=4) (s:=s) (a:=some ⟨b,o,none⟩) (len:=1) (cap:=cap) (next:=next) (fun j hj=>by
   rw[<-hw3]
   exact hF.same _ (by show _<w3.heap.size;omega) (fun h=>by have:=h.2;omega))
  exact k45
 have hw3' : Hid (((w.alloc (.cells #[.pointer (some ⟨B,0,none⟩)] 164)).alloc (.cells #[.int .i64 4,.string s,.slice (some ⟨b,o,none⟩) 1 cap] 69)).alloc (.cells #[.int .i64 (next:Int)] 3)=w3):=hw3.symm
 generalize layLoop (layD gs n) [x] next L=r at *
 obtain⟨R,f1,f2⟩:=r
 simp only at *
 have hS0:=(HS.out _ _ (Fr.refl _ _)).1
 clear hP hP3 hB hB3 hE hS hlay hwf hA hA3 hEx hkid hw3 hb3
 go_enter Tryz.func118,Tryz.ntmps118
 go_wp2_with fail
 rw[hw3'.out]
 refine wp_region_held_drew (S:=fun W=>W.cell? ⟨w.heap.size,0,none⟩=some (.pointer (some ⟨B,0,none⟩))/\W.cell? ⟨w.heap.size+1,2,none⟩=some (.slice (some ⟨b,o,none⟩) 1 cap)/\W.cell? ⟨w.heap.size+2,0,none⟩=some (.int .i64 (next:Int))/\W.cell? ⟨b,o,none⟩=some (.int .i64 kx)/\W.cell? ⟨b,o+1,none⟩=some (.string sx)/\W.cell? ⟨b,o+2,none⟩=some (.slice ax lx cx)) hmx hS0 (fun hS=>?_)
 refine takeG 0 (some 88) hS ?_ (hy:=by intro w hSw;obtain⟨s1,s2,s3,s4,s5,s6⟩:=hSw;go_simp;with_reducible rfl)
 refine takeG 1 (some 89) hS ?_ (hy:=by intro w hSw;obtain⟨s1,s2,s3,s4,s5,s6⟩:=hSw;go_simp;with_reducible rfl)
 refine takeG 2 (some 90) hS ?_ (hy:=by intro w hSw;obtain⟨s1,s2,s3,s4,s5,s6⟩:=hSw;go_simp;with_reducible rfl)
 refine takeG 3 (some 91) hS ?_ (hy:=by intro w hSw;obtain⟨s1,s2,s3,s4,s5,s6⟩:=hSw;go_simp;with_reducible rfl)
 refine takeG 4 (some 92) hS ?_ (hy:=by intro w hSw;obtain⟨s1,s2,s3,s4,s5,s6⟩:=hSw;go_simp;with_reducible rfl)
 refine takeG 5 (some 93) hS ?_ (hy:=by intro w hSw;obtain⟨s1,s2,s3,s4,s5,s6⟩:=hSw;go_simp;with_reducible rfl)
 refine callD 6 kr rfl (fun K hK=>?_)
 go_simp
 refine HL.out.mono ?_
 rintro e W ⟨rfl,A', hP', hF'⟩
 obtain⟨hSW,hFw⟩:=HS.out W A' hF'
 refine hK.out _ _ hSW (fun _=>?_)
 clear hK K
 try simp only[lay4]
 refine takeG 7 (some 87) hSW ?_ (hy:=by intro w hSw;obtain⟨s1,s2,s3,s4,s5,s6⟩:=hSw;(try go_simp);with_reducible rfl)
 refine takeG 8 (some 95) hSW ?_ (hy:=by intro w hSw;obtain⟨s1,s2,s3,s4,s5,s6⟩:=hSw;go_simp;with_reducible rfl)
 refine takeG 9 (some 96) hSW ?_ (hy:=by intro w hSw;obtain⟨s1,s2,s3,s4,s5,s6⟩:=hSw;go_simp;with_reducible rfl)
 refine takeG 10 (some 12) hSW ?_ (hy:=by intro w hSw;obtain⟨s1,s2,s3,s4,s5,s6⟩:=hSw;(try go_simp);with_reducible rfl)
 refine takeG 11 (some 13) hSW ?_ (hy:=by intro w hSw;obtain⟨s1,s2,s3,s4,s5,s6⟩:=hSw;(try go_simp);with_reducible rfl)
 refine wpAnyH_done kr ?_ _
 go_wp2
 go_ret
 exact⟨rfl,A', hP', hFw⟩
theorem layplus_calls (W0:World)(gs:List Grp)(ga:Option Addr)(gl gc n:Nat)(hlay:LayC W0 gs ga gl gc n)(s:ByteArray)(a:Option Addr)(len cap:Nat)(x:DataW Unit)(w:World)(next:Nat)(A:Nat->Prop)(B:Nat)(L:List Place)
  (hE:Ex W0 (n+1) (node 5 s [x]) (.agg #[.int .i64 5,.string s,.slice a len cap])) (hS:SaneD gs n x) (hB:Below W0.heap.size W0 w) (hA:∀b,A b->W0.heap.size<=b)
  (hP:PlanIn A w B (.slice ga gl gc) L)(hwf:wf L)(hn:next<L.length)(hlen:L.length+(2+need subs n x)<=1000000000) :
  Calls Tryz.prog 118 #[.pointer (some ⟨B,0,none⟩),.agg #[.int .i64 5,.string s,.slice a len cap],.int .i64 (next:Int)] w fun e w' => e=.returned (.int .i64 ((layLoop (layD gs n) [x] next L).2.2:Int))/\∃A', PlanIn A' w' B (.slice ga gl gc) (layLoop (layD gs n) [x] next L).1/\Fr A w A' w' := by
 have hbase:=hB.size
 obtain⟨w3,hw3⟩:∃w3,w3=laid3 w B 5 s a len cap next:=⟨_,rfl⟩
 have hs3:w3.heap.size=w.heap.size+3:=by rw[hw3,laid3_size]
 have hb3:Below w.heap.size w w3:=by rw[hw3];exact laid3_below ..
 have hP3:PlanIn (fun b=>A b/\b<w.heap.size) w3 B (.slice ga gl gc) L:=hP.tight.kept (fun _ h=>h) fun b hb _=>hb3.block b hb
 have hB3:Below W0.heap.size W0 w3:=hB.trans (hb3.mono hbase)
 have hA3:∀b,A b/\b<w.heap.size->W0.heap.size<=b:=fun b h=>hA b h.1
 obtain⟨rfl,b,o,kx,sx,ax,lx,cx,rfl,hEx,hkid⟩:=kid_one hE
 have HL:Hid (Calls Tryz.prog 150 #[.pointer (some ⟨B,0,none⟩),.agg #[.int .i64 kx,.string sx,.slice ax lx cx],.int .i64 (next:Int)] w3.drew fun e w' => e=.returned (.tuple #[.int .i64 ((layLoop (layD gs n) [x] next L).2.1:Int),.int .i64 ((layLoop (layD gs n) [x] next L).2.2:Int)])/\∃A', PlanIn A' w' B (.slice ga gl gc) (layLoop (layD gs n) [x] next L).1/\Fr (fun b=>A b/\b<w.heap.size) w3.drew A' w') :=
  loop_calls W0 gs ga gl gc n hlay x _ w3.drew next (fun b=>A b/\b<w.heap.size) B L hEx hS hB3.drew hA3 (hP3.kept (fun _ h=>h) fun _ _ _=>rfl) hwf hn oo
 have HS:Hid (∀(W:World) (A' : Nat->Prop),Fr (fun b=>A b/\b<w.heap.size) w3.drew A' W->(W.cell? ⟨w.heap.size,0,none⟩=some (.pointer (some ⟨B,0,none⟩))/\W.cell? ⟨w.heap.size+1,2,none⟩=some (.slice (some ⟨b,o,none⟩) 1 cap)/\W.cell? ⟨w.heap.size+2,0,none⟩=some (.int .i64 (next:Int))/\W.cell? ⟨b,o,none⟩=some (.int .i64 kx)/\W.cell? ⟨b,o+1,none⟩=some (.string sx)/\W.cell? ⟨b,o+2,none⟩=some (.slice ax lx cx))/\Fr A w A' W):=by
  intro W A' hF
  obtain⟨d0,_,_,d3,d4⟩:=laid3_cells (w:=w) (X:=W) (B:=B) (k:=5) (s:=s) (a:=some ⟨b,o,none⟩) (len:=1) (cap:=cap) (next:=next) (fun j hj=>by
   rw[<-hw3]
   exact hF.same _ (by show _<w3.heap.size;omega) (fun h=>by have:=h.2;omega))
  exact k45
 have hw3' : Hid (((w.alloc (.cells #[.pointer (some ⟨B,0,none⟩)] 164)).alloc (.cells #[.int .i64 5,.string s,.slice (some ⟨b,o,none⟩) 1 cap] 69)).alloc (.cells #[.int .i64 (next:Int)] 3)=w3):=hw3.symm
 generalize layLoop (layD gs n) [x] next L=r at *
 obtain⟨R,f1,f2⟩:=r
 simp only at *
 have hS0:=(HS.out _ _ (Fr.refl _ _)).1
 clear hP hP3 hB hB3 hE hS hlay hwf hA hA3 hEx hkid hw3 hb3
 go_enter Tryz.func118,Tryz.ntmps118
 go_wp2_with fail
 rw[hw3'.out]
 refine wp_region_held_drew (S:=fun W=>W.cell? ⟨w.heap.size,0,none⟩=some (.pointer (some ⟨B,0,none⟩))/\W.cell? ⟨w.heap.size+1,2,none⟩=some (.slice (some ⟨b,o,none⟩) 1 cap)/\W.cell? ⟨w.heap.size+2,0,none⟩=some (.int .i64 (next:Int))/\W.cell? ⟨b,o,none⟩=some (.int .i64 kx)/\W.cell? ⟨b,o+1,none⟩=some (.string sx)/\W.cell? ⟨b,o+2,none⟩=some (.slice ax lx cx)) hmx hS0 (fun hS=>?_)
 refine takeG 0 (some 101) hS ?_ (hy:=by intro w hSw;obtain⟨s1,s2,s3,s4,s5,s6⟩:=hSw;go_simp;with_reducible rfl)
 refine takeG 1 (some 102) hS ?_ (hy:=by intro w hSw;obtain⟨s1,s2,s3,s4,s5,s6⟩:=hSw;go_simp;with_reducible rfl)
 refine takeG 2 (some 103) hS ?_ (hy:=by intro w hSw;obtain⟨s1,s2,s3,s4,s5,s6⟩:=hSw;go_simp;with_reducible rfl)
 refine takeG 3 (some 104) hS ?_ (hy:=by intro w hSw;obtain⟨s1,s2,s3,s4,s5,s6⟩:=hSw;go_simp;with_reducible rfl)
 refine takeG 4 (some 105) hS ?_ (hy:=by intro w hSw;obtain⟨s1,s2,s3,s4,s5,s6⟩:=hSw;go_simp;with_reducible rfl)
 refine takeG 5 (some 106) hS ?_ (hy:=by intro w hSw;obtain⟨s1,s2,s3,s4,s5,s6⟩:=hSw;go_simp;with_reducible rfl)
 refine callD 6 kr rfl (fun K hK=>?_)
 go_simp
 refine HL.out.mono ?_
 rintro e W ⟨rfl,A', hP', hF'⟩
 obtain⟨hSW,hFw⟩:=HS.out W A' hF'
 refine hK.out _ _ hSW (fun _=>?_)
 clear hK K
 try simp only[lay4]
 refine takeG 7 (some 100) hSW ?_ (hy:=by intro w hSw;obtain⟨s1,s2,s3,s4,s5,s6⟩:=hSw;(try go_simp);with_reducible rfl)
 refine takeG 8 (some 108) hSW ?_ (hy:=by intro w hSw;obtain⟨s1,s2,s3,s4,s5,s6⟩:=hSw;go_simp;with_reducible rfl)
 refine takeG 9 (some 109) hSW ?_ (hy:=by intro w hSw;obtain⟨s1,s2,s3,s4,s5,s6⟩:=hSw;go_simp;with_reducible rfl)
 refine takeG 10 (some 14) hSW ?_ (hy:=by intro w hSw;obtain⟨s1,s2,s3,s4,s5,s6⟩:=hSw;(try go_simp);with_reducible rfl)
 refine takeG 11 (some 15) hSW ?_ (hy:=by intro w hSw;obtain⟨s1,s2,s3,s4,s5,s6⟩:=hSw;(try go_simp);with_reducible rfl)
 refine wpAnyH_done kr ?_ _
 go_wp2
 go_ret
 exact⟨rfl,A', hP', hFw⟩
theorem layopt_calls (W0:World)(gs:List Grp)(ga:Option Addr)(gl gc n:Nat)(hlay:LayC W0 gs ga gl gc n)(s:ByteArray)(a:Option Addr)(len cap:Nat)(x:DataW Unit)(w:World)(next:Nat)(A:Nat->Prop)(B:Nat)(L:List Place)
  (hE:Ex W0 (n+1) (node 6 s [x]) (.agg #[.int .i64 6,.string s,.slice a len cap])) (hS:SaneD gs n x) (hB:Below W0.heap.size W0 w) (hA:∀b,A b->W0.heap.size<=b)
  (hP:PlanIn A w B (.slice ga gl gc) L)(hwf:wf L)(hn:next<L.length)(hlen:L.length+(2+need subs n x)<=1000000000) :
  Calls Tryz.prog 118 #[.pointer (some ⟨B,0,none⟩),.agg #[.int .i64 6,.string s,.slice a len cap],.int .i64 (next:Int)] w fun e w' => e=.returned (.int .i64 ((layOpt (layD gs n) [x] next L).2:Int))/\∃A', PlanIn A' w' B (.slice ga gl gc) (layOpt (layD gs n) [x] next L).1/\Fr A w A' w' := by
 have hbase:=hB.size
 obtain⟨w3,hw3⟩:∃w3,w3=laid3 w B 6 s a len cap next:=⟨_,rfl⟩
 have hs3:w3.heap.size=w.heap.size+3:=by rw[hw3,laid3_size]
 have hb3:Below w.heap.size w w3:=by rw[hw3];exact laid3_below ..
 have hP3:PlanIn (fun b=>A b/\b<w.heap.size) w3 B (.slice ga gl gc) L:=hP.tight.kept (fun _ h=>h) fun b hb _=>hb3.block b hb
 have hB3:Below W0.heap.size W0 w3:=hB.trans (hb3.mono hbase)
 have hA3:∀b,A b/\b<w.heap.size->W0.heap.size<=b:=fun b h=>hA b h.1
 obtain⟨rfl,b,o,kx,sx,ax,lx,cx,rfl,hEx,hkid⟩:=kid_one hE
 obtain⟨a1,a2,a3,a4,a5,a6⟩:=layD_good gs n x hS next L hwf hn
 have hsn:=size_need subs n x
 have HL:Hid (Calls Tryz.prog 118 #[.pointer (some ⟨B,0,none⟩),.agg #[.int .i64 kx,.string sx,.slice ax lx cx],.int .i64 (next:Int)] w3.drew fun e w' => e=.returned (.int .i64 ((layD gs n x next L).2:Int))/\∃A', PlanIn A' w' B (.slice ga gl gc) (layD gs n x next L).1/\Fr (fun b=>A b/\b<w.heap.size) w3.drew A' w') :=
  hlay x _ w3.drew next (fun b=>A b/\b<w.heap.size) B L hEx hS hB3.drew hA3 (hP3.kept (fun _ h=>h) fun _ _ _=>rfl) hwf hn oo
 have HS:Hid (∀(W:World) (A1 A' : Nat->Prop),(∀k,A1 k->(A k/\k<w.heap.size)\/w3.heap.size<=k)->Fr A1 w3.drew A' W->(W.cell? ⟨w.heap.size,0,none⟩=some (.pointer (some ⟨B,0,none⟩))/\W.cell? ⟨w.heap.size+1,2,none⟩=some (.slice (some ⟨b,o,none⟩) 1 cap)/\W.cell? ⟨w.heap.size+2,0,none⟩=some (.int .i64 (next:Int))/\W.cell? ⟨b,o,none⟩=some (.int .i64 kx)/\W.cell? ⟨b,o+1,none⟩=some (.string sx)/\W.cell? ⟨b,o+2,none⟩=some (.slice ax lx cx))/\Fr A w A' W):=by
  intro W A1 A' hA1 hF
  have hnot:∀k,k<w3.heap.size->¬(A k/\k<w.heap.size)->¬A1 k:=fun k hk h h1=>by
   rcases hA1 k h1 with h2 | h2
   ·exact h h2
   ·omega
  obtain⟨d0,_,_,d3,d4⟩:=laid3_cells (w:=w) (X:=W) (B:=B) (k:=6) (s:=s) (a:=some ⟨b,o,none⟩) (len:=1) (cap:=cap) (next:=next) (fun j hj=>by
   rw[<-hw3]
   exact hF.same _ (by show _<w3.heap.size;omega) (hnot _ oo (fun h=>by have:=h.2;omega)))
  obtain⟨c0,c1,c2⟩:=hkid W (hB3.drew.trans (hF.toBelow (base:=W0.heap.size) (by show _<=w3.heap.size;omega) (fun k hk=>hnot k oo (fun h=>by have:=hA3 k h;omega))));refine⟨⟨d0,d3,d4,c0,c1,c2⟩,(Fr.of_below (A:=A) hb3.drew).trans (hF.less fun k h=>?_)⟩;rcases hA1 k h with h2 | h2
  ·exact .inl h2.1
  ·exact .inr h2
 have HF:Hid (∀(W:World) (A' : Nat->Prop),PlanIn A' W B (.slice ga gl gc) (layD gs n x next L).1->Fr (fun b=>A b/\b<w.heap.size) w3.drew A' W →
   Fr (fun b=>A b/\b<w.heap.size) w3.drew A' (W.alloc (.cells #[.int .i64 (next:Int),.int .i64 ((layD gs n x next L).2:Int)] 3)) ∧
   Calls Tryz.prog 149 #[.pointer (some ⟨B,0,none⟩),.slice (some ⟨W.heap.size,0,none⟩) 2 2] (W.alloc (.cells #[.int .i64 (next:Int),.int .i64 ((layD gs n x next L).2:Int)] 3)) fun e w' => e=.returned (.int .i64 ((layOpt (layD gs n) [x] next L).2:Int))/\∃A1 A'', (∀k,A1 k->(A k/\k<w.heap.size)\/w3.heap.size<=k)/\PlanIn A'' w' B (.slice ga gl gc) (layOpt (layD gs n) [x] next L).1/\Fr A1 w3.drew A'' w'):=by
  intro W A' hP' hF';have hFa:=hF'.alloc (.cells #[.int .i64 (next:Int),.int .i64 ((layD gs n x next L).2:Int)] 3);refine⟨hFa,?_⟩;have hsz:w3.heap.size<=W.heap.size:=hF'.below.size
  have:=fork_calls (fun k=>A' k/\k<W.heap.size) B (.slice ga gl gc) (layD gs n x next L).1 (W.alloc (.cells #[.int .i64 (next:Int),.int .i64 ((layD gs n x next L).2:Int)] 3)) [next,(layD gs n x next L).2] _ 2 2
   (hP'.tight.kept (fun _ h=>h) fun k hk _=>zzf W _ k hk) (owns_new2 W next (layD gs n x next L).2) (fun g hg h=>by have:=own_some hg;have:=h.2;omega) oo (by simp) (fun q hq=>by
    simp at hq;rcases hq with rfl | rfl
    ·omega
    ·exact a2) (by simp) (fun p=>by have:=a1.least_lt p;omega)
  refine this.mono ?_;rintro e W2 ⟨rfl,A'', hP'', hF''⟩;refine⟨rfl,fun k=>(A k/\k<w.heap.size)\/w3.heap.size<=k,A'', fun k h=>h,hP'', ?_⟩;refine(Fr.trans (A' := fun k=>(A' k/\k<W.heap.size)\/(Value.slice (some ⟨W.heap.size,0,none⟩) 2 2).ownBlock=some k) (w' := W.alloc (.cells #[.int .i64 (next:Int),.int .i64 ((layD gs n x next L).2:Int)] 3)) ?_ hF'');refine⟨hFa.below,fun k hk hn=>hFa.same k hk (fun h=>hn (.inl h)),fun k hk=>?_⟩;rcases hk with h | h
  ·rcases hFa.sub k h.1 with h1 | h1
   ·exact .inl (.inl h1)
   ·exact .inr h1
  ·have:=own_some h
   exact .inr (by show w3.heap.size<=k;omega)
 have hw3' : Hid (((w.alloc (.cells #[.pointer (some ⟨B,0,none⟩)] 164)).alloc (.cells #[.int .i64 6,.string s,.slice (some ⟨b,o,none⟩) 1 cap] 69)).alloc (.cells #[.int .i64 (next:Int)] 3)=w3):=hw3.symm
 generalize layOpt (layD gs n) [x] next L=r at *
 generalize ((layD gs n x next L).2:Int)=f1 at *
 obtain⟨R,f2⟩:=r
 simp only at *
 have hS0:=(HS.out _ _ _ (fun k h=>.inl h) (Fr.refl (fun b=>A b/\b<w.heap.size) w3.drew)).1
 clear hP hP3 hB hB3 hE hS hlay hwf hA hA3 hEx hkid hw3 hb3 a1 a2 a3 a4 a5 a6 hsn
 go_enter Tryz.func118,Tryz.ntmps118
 go_wp2_with fail
 rw[hw3'.out]
 refine wp_region_held_drew (S:=fun W=>W.cell? ⟨w.heap.size,0,none⟩=some (.pointer (some ⟨B,0,none⟩))/\W.cell? ⟨w.heap.size+1,2,none⟩=some (.slice (some ⟨b,o,none⟩) 1 cap)/\W.cell? ⟨w.heap.size+2,0,none⟩=some (.int .i64 (next:Int))/\W.cell? ⟨b,o,none⟩=some (.int .i64 kx)/\W.cell? ⟨b,o+1,none⟩=some (.string sx)/\W.cell? ⟨b,o+2,none⟩=some (.slice ax lx cx)) hmx hS0 (fun hS=>?_)
 refine takeG 0 (some 74) hS ?_ (hy:=by intro w hSw;obtain⟨s1,s2,s3,s4,s5,s6⟩:=hSw;go_simp;with_reducible rfl)
 refine takeG 1 (some 75) hS ?_ (hy:=by intro w hSw;obtain⟨s1,s2,s3,s4,s5,s6⟩:=hSw;go_simp;with_reducible rfl)
 refine takeG 2 (some 76) hS ?_ (hy:=by intro w hSw;obtain⟨s1,s2,s3,s4,s5,s6⟩:=hSw;go_simp;with_reducible rfl)
 refine takeG 3 (some 77) hS ?_ (hy:=by intro w hSw;obtain⟨s1,s2,s3,s4,s5,s6⟩:=hSw;go_simp;with_reducible rfl)
 refine takeG 4 (some 78) hS ?_ (hy:=by intro w hSw;obtain⟨s1,s2,s3,s4,s5,s6⟩:=hSw;go_simp;with_reducible rfl)
 refine takeG 5 (some 79) hS ?_ (hy:=by intro w hSw;obtain⟨s1,s2,s3,s4,s5,s6⟩:=hSw;go_simp;with_reducible rfl)
 refine takeG 6 (some 80) hS ?_ (hy:=by intro w hSw;obtain⟨s1,s2,s3,s4,s5,s6⟩:=hSw;go_simp;with_reducible rfl)
 refine takeG 7 (some 81) hS ?_ (hy:=by intro w hSw;obtain⟨s1,s2,s3,s4,s5,s6⟩:=hSw;go_simp;with_reducible rfl)
 refine callD 8 kr rfl (fun K hK=>?_)
 go_simp
 refine HL.out.mono ?_
 rintro e W ⟨rfl,A', hP', hF'⟩
 obtain⟨hFa,HFK⟩:=HF.out W A' hP' hF'
 have hSW:=(HS.out W _ A' (fun k h=>.inl h) hF').1
 have hSa:=(HS.out _ _ A' (fun k h=>.inl h) hFa).1
 refine hK.out _ _ hSW (fun _=>?_)
 clear hK K
 try simp only[lay4]
 refine callD 9 kr rfl (fun K hK=>?_)
 go_simp
 refine hK.out _ _ hSa (fun _=>?_)
 clear hK K
 try simp only[lay4]
 refine callD 10 kr rfl (fun K hK=>?_)
 go_simp
 refine HFK.mono ?_
 rintro e W2 ⟨rfl,A1,A'', hA1,hP2,hF2⟩
 obtain⟨hS2,hFw⟩:=HS.out W2 A1 A'' hA1 hF2
 refine hK.out _ _ hS2 (fun _=>?_)
 clear hK K
 try simp only[lay4]
 refine takeG 11 (some 6) hS2 ?_ (hy:=by intro w hSw;obtain⟨s1,s2,s3,s4,s5,s6⟩:=hSw;(try go_simp);with_reducible rfl)
 refine wpAnyH_done kr ?_ _
 go_wp2
 go_ret
 exact⟨rfl,A'', hP2,hFw⟩
theorem layD_node (gs:List Grp)(n:Nat)(k:Int)(s:ByteArray)(ts:List (DataW Unit))(next:Nat)(L:List Place):layD gs (n+1) (node k s ts) next L =
  if k=1 then (L++[(maskG gs s,[next],leastAt L next+1)],L.length)
  else if k=2 then laySeq (layD gs n) ts.reverse next L
  else if k=3 then forkL (layAlt (layD gs n) next ts L []).1 (layAlt (layD gs n) next ts L []).2
  else if k=4 then ((layLoop (layD gs n) ts next L).1,(layLoop (layD gs n) ts next L).2.1)
  else if k=5 then ((layLoop (layD gs n) ts next L).1,(layLoop (layD gs n) ts next L).2.2)
  else if k=6 then layOpt (layD gs n) ts next L
  else (L,next):=by
 unfold layD
 rw[lay,kindT_node,subs_node,nameT_node]
theorem saneD_node {gs:List Grp}{n:Nat}{k:Int}{s:ByteArray}{ts:List (DataW Unit)}(h:SaneD gs (n+1) (node k s ts)):(k=1->maskG gs s≠0)/\(k=2\/k=3->ts≠[])/\(k=4\/k=5\/k=6->∃x,ts=[x])/\∀x∈ts,SaneD gs n x:=by
 unfold SaneD at h
 rw[Sane,kindT_node,subs_node,nameT_node] at h
 exact h
theorem need_node (n:Nat)(k:Int)(s:ByteArray)(x:DataW Unit):2+need subs n x<=need subs (n+1) (node k s [x]):=by
 rw[need,subs_node]
 simp
 omega
theorem len_need (n:Nat)(k:Int)(s:ByteArray)(ts:List (DataW Unit)){gs:List Grp}(h:∀x∈ts,SaneD gs n x):ts.length<=need subs (n+1) (node k s ts):=by
 rw[need,subs_node]
 cases n with
 | zero=>
  cases ts with
  | nil=>simp
  | cons x r=>exact(h x (zzg ..)).elim
 | succ n=>
  have:∀l:List (DataW Unit),l.length<=(l.map (need subs (n+1))).sum:=by
   intro l
   induction l with
   | nil=>exact zzb _
   | cons x r ih=>
    (have h1:3<=need subs (n+1) x:=by rw[need];omega);rw[List.map_cons,List.sum_cons,List.length_cons];omega
  have:=this ts
  omega
theorem lay_calls (W0:World)(gs:List Grp)(ga:Option Addr)(gl gc:Nat)(hG:Groups W0 ga gl gs)(hgr:rightG gs=true):∀n,LayC W0 gs ga gl gc n:=by
 intro n
 induction n with
 | zero=>intro t v w next A B L hE;exact hE.elim
 | succ n ih=>
  intro t v w next A B L hE hS hB hA hP hwf hn hlen;have hE' := hE;obtain⟨k,s,a,len,cap,ts,rfl,rfl,hl,hz,hk⟩:=hE;obtain⟨s1,s3,s4,sk⟩:=saneD_node hS;have hln:=len_need n k s ts sk;rw[layD_node]
  by_cases k1:k=1
  ·subst k1
   rw[if_pos rfl];exact layname_calls W0 gs ga gl gc hG hgr s a len cap w next A B L hB hA hP hwf hn oo
  rw[if_neg k1]
  by_cases k2:k=2
  ·subst k2
   rw[if_pos rfl];exact layseq_calls W0 gs ga gl gc n ih s a len cap ts w next A B L hE' (s3 (.inl rfl)) sk hB hA hP hwf hn hlen
  rw[if_neg k2]
  by_cases k3:k=3
  ·subst k3
   rw[if_pos rfl];exact layalt_calls W0 gs ga gl gc n ih s a len cap ts w next A B L hE' (s3 (.inr rfl)) sk hB hA hP hwf hn hlen oo
  rw[if_neg k3]
  by_cases k4:k=4
  ·subst k4
   rw[if_pos rfl];obtain⟨x,rfl⟩:=s4 (.inl rfl)
   have:=need_node n 4 s x
   exact laystar_calls W0 gs ga gl gc n ih s a len cap x w next A B L hE' (sk x (List.mem_singleton.2 rfl)) hB hA hP hwf hn oo
  rw[if_neg k4]
  by_cases k5:k=5
  ·subst k5
   rw[if_pos rfl];obtain⟨x,rfl⟩:=s4 (.inr (.inl rfl))
   have:=need_node n 5 s x
   exact layplus_calls W0 gs ga gl gc n ih s a len cap x w next A B L hE' (sk x (List.mem_singleton.2 rfl)) hB hA hP hwf hn oo
  rw[if_neg k5]
  by_cases k6:k=6
  ·subst k6
   rw[if_pos rfl];obtain⟨x,rfl⟩:=s4 (.inr (.inr rfl))
   have:=need_node n 6 s x
   exact layopt_calls W0 gs ga gl gc n ih s a len cap x w next A B L hE' (sk x (List.mem_singleton.2 rfl)) hB hA hP hwf hn oo
  rw[if_neg k6];exact laynone_calls W0 ga gl gc k oo s a len cap w next A B L hB hP
end Go.Proofs.YtjkebndkeamijaaGreatDoor
namespace Go.Proofs.YtjkebndkeamijaaGreatDoor
def Via (F:List Place):Nat->Nat->Nat->Prop
 | 0,p,q=>p=q
 | k+1,p,q=>p=q\/∃x,F[p]? = some x/\x.1=0/\∃r∈x.2.1,Via F k r q
theorem Via.up {F:List Place}:∀{k p q:Nat},Via F k p q->Via F (k+1) p q:=by
 intro k
 induction k with
 | zero=>intro p q h;exact .inl h
 | succ k ih=>
  intro p q h;rcases h with h | ⟨x,hx,h0,r,hr,h⟩
  ·exact .inl h
  ·exact .inr ⟨x,hx,h0,r,hr,ih h⟩
theorem Via.upto {F:List Place}{k m p q:Nat}(h:k<=m)(hr:Via F k p q):Via F m p q:=by
 induction h with
 | refl=>exact hr
 | step _ ih=>exact Via.up ih
theorem Via.trans {F:List Place}:∀{k p q:Nat},Via F k p q->∀{m r:Nat},Via F m q r->Via F (k+m) p r:=by
 intro k
 induction k with
 | zero=>
  rintro p q rfl m r h;simpa using h
 | succ k ih=>
  intro p q h m r h';rw[show k+1+m=k+m+1 from by omega];rcases h with rfl | ⟨x,hx,h0,s,hs,h⟩
  ·exact Via.upto oo h'
  ·exact .inr ⟨x,hx,h0,s,hs,ih h h'⟩
theorem Via.one {F:List Place}{p q:Nat}{x:Place}(hx:F[p]? = some x)(h0:x.1=0)(hq:q∈x.2.1):Via F 1 p q:=.inr ⟨x,hx,h0,q,hq,rfl⟩
def Shut1 (F:List Place)(S:Nat->Prop):Prop:=∀p x,S p->F[p]? = some x->x.1=0->∀q∈x.2.1,S q
theorem Shut1.via {F:List Place}{S:Nat->Prop}(h:Shut1 F S):∀{k p q:Nat},S p->Via F k p q->S q:=by
 intro k
 induction k with
 | zero=>rintro p q hp rfl;exact hp
 | succ k ih=>
  intro p q hp hv;rcases hv with rfl | ⟨x,hx,h0,r,hr,hv⟩
  ·exact hp
  ·exact ih (h p x hp hx h0 r hr) hv
def startS (F:List Place)(p:Nat):Nat->Prop:=fun q=>∃k,Via F k p q
theorem startS_shut (F:List Place)(p:Nat):Shut1 F (startS F p):=fun _q _x ⟨_,hk⟩ hx h0 _ hr=>⟨_,hk.trans (Via.one hx h0 hr)⟩
def stepS (F:List Place)(S:Nat->Prop)(t:Int):Nat->Prop:=fun q=>∃a x r k,S a/\F[a]? = some x/\takes x.1 t=true/\x.2.1[0]? = some r/\Via F k r q
theorem stepS_shut (F:List Place)(S:Nat->Prop)(t:Int):Shut1 F (stepS F S t):=fun _q _x ⟨a,y,r,_,h1,h2,h3,h4,hk⟩ hx h0 _ hr=>⟨a,y,r,_,h1,h2,h3,h4,hk.trans (Via.one hx h0 hr)⟩
def afterS (F:List Place)(S:Nat->Prop)(w:List Int):Nat->Prop:=w.foldl (stepS F) S
theorem afterS_shut {F:List Place}{S:Nat->Prop}(h:Shut1 F S):∀w,Shut1 F (afterS F S w):=by
 intro w
 induction w generalizing S with
 | nil=>exact h
 | cons t r ih=>exact ih (stepS_shut F S t)
theorem afterS_snoc (F:List Place)(S:Nat->Prop)(w:List Int)(t:Int):afterS F S (w++[t])=stepS F (afterS F S w) t:=by unfold afterS;rw[List.foldl_append];rfl
theorem afterS_empty {F:List Place}{S:Nat->Prop}(h:∀p,¬S p):∀w p,¬afterS F S w p:=by
 intro w
 induction w generalizing S with
 | nil=>exact h
 | cons t r ih=>exact ih (fun p ⟨a,_,_,_,h1,_⟩=>h a h1)
theorem reads_after {F:List Place}(_h0:F[0]? = some (0,[],0)):∀(w:List Int) (S:Nat->Prop),Shut1 F S->((∃a k,S a/\Reads F k a w)↔afterS F S w 0):=by
 intro w
 induction w with
 | nil=>
  intro S hS
  constructor
  ·rintro⟨a,k,ha,hr⟩
   show S 0
   induction k generalizing a with
   | zero=>obtain⟨rfl,_⟩:=hr;exact ha
   | succ k ih=>
    rcases hr with ⟨rfl,_⟩ | ⟨x,hx,⟨hz,q,hq,hr⟩ | ⟨_,t,v,q,e,_⟩⟩
    ·exact ha
    ·exact ih q (hS a x ha hx hz q hq) hr
    ·cases e
  ·intro h
   exact⟨0,0,h,rfl,rfl⟩
 | cons t v ih=>
  intro S hS;rw[show afterS F S (t::v)=afterS F (stepS F S t) v from rfl,<-ih _ (stepS_shut F S t)]
  constructor
  ·rintro⟨a,k,ha,hr⟩
   induction k generalizing a with
   | zero=>obtain⟨_,e⟩:=hr;cases e
   | succ k ihk=>
    rcases hr with ⟨_,e⟩ | ⟨x,hx,⟨hz,q,hq,hr⟩ | ⟨hz,t', v', q,e,ht,hq,hr⟩⟩
    ·cases e
    ·exact ihk q (hS a x ha hx hz q hq) hr
    ·cases e
     exact⟨q,k,⟨a,x,q,0,ha,hx,ht,hq,rfl⟩,hr⟩
  ·rintro⟨b,k,⟨a,x,r,m,ha,hx,ht,hr,hv⟩,hR⟩
   have hlift:∀{m p:Nat},Via F m p b->Reads F (m+k) p v:=by
    intro m
    induction m with
    | zero=>rintro p rfl;simpa using hR
    | succ m ihm=>
     intro p hp;rw[show m+1+k=m+k+1 from by omega];rcases hp with rfl | ⟨y,hy,hz,s,hs,hp⟩
     ·exact Reads.upto oo hR
     ·exact .inr ⟨y,hy,.inl ⟨hz,s,hs,ihm hp⟩⟩
   refine⟨a,m+k+1,ha,.inr ⟨x,hx,.inr ⟨fun e=>?_,t,v,r,rfl,ht,hr,hlift hv⟩⟩⟩;rw[e,takes_zero] at ht;cases ht
def Grown (F:List Place)(S S' : Nat->Bool)(p:Nat):Prop :=
 (∀q,S q=true->S' q=true)/\S' p=true/\(∀q,S' q=true->S q=true\/∃k,Via F k p q)/\∀q x,S' q=true->S q=false->F[q]? = some x->x.1=0->∀r∈x.2.1,S' r=true
def GrownS (F:List Place)(S S' : Nat->Bool)(p:Nat)(l:List Nat):Prop :=
 (∀q,S q=true->S' q=true)/\S' p=true/\(∀q∈l,S' q=true)/\(∀q,S' q=true->S q=true\/∃k,Via F k p q)/\∀q x,S' q=true->S q=false->q≠p->F[q]? = some x->x.1=0->∀r∈x.2.1,S' r=true
theorem GrownS.step {F:List Place}{S S1 S2:Nat->Bool}{p q:Nat}{l:List Nat}{x:Place}(hx:F[p]? = some x)(h0:x.1=0)(hq:q∈x.2.1)(h:GrownS F S S1 p l)(g:Grown F S1 S2 q):GrownS F S S2 p (l++[q]):=by
 obtain⟨h1,h2,h3,h4,h5⟩:=h
 obtain⟨g1,g2,g3,g4⟩:=g
 refine⟨fun r hr=>g1 r (h1 r hr),g1 p h2,fun r hr=>?_,fun r hr=>?_,fun r y hr hn hne hy hz s hs=>?_⟩
 ·rcases List.mem_append.1 hr with hr | hr
  ·exact g1 r (h3 r hr)
  ·simp at hr;rw[hr];exact g2
 ·rcases g3 r hr with h | ⟨k,h⟩
  ·exact h4 r h
  ·exact .inr ⟨_,(Via.one hx h0 hq).trans h⟩
 ·cases hc:S1 r with
  | true=>exact g1 s (h5 r y hc hn hne hy hz s hs)
  | false=>exact g4 r y hr hc hy hz s hs
theorem GrownS.done {F:List Place}{S S' : Nat->Bool}{p:Nat}{x:Place}(hx:F[p]? = some x)(h:GrownS F S S' p x.2.1):Grown F S S' p:=by
 obtain⟨h1,h2,h3,h4,h5⟩:=h
 refine⟨h1,h2,h4,fun q y hq hn hy hz r hr=>?_⟩
 by_cases e:q=p
 ·subst e
  rw[hx] at hy;cases hy;exact h3 r hr
 ·exact h5 q y hq hn e hy hz r hr
theorem Grown.refl {F:List Place}{S:Nat->Bool}{p:Nat}(h:S p=true):Grown F S S p:=⟨fun _ h=>h,h,fun _ h=>.inl h,fun q _ h1 h2=>by rw[h1] at h2;cases h2⟩
def putS (S:Nat->Bool)(p:Nat):Nat->Bool:=fun q=>S q||(q==p)
theorem GrownS.start (F:List Place)(S:Nat->Bool)(p:Nat):GrownS F S (putS S p) p []:=by
 refine⟨fun q h=>by simp[putS,h],by simp[putS],fun q hq=>(by cases hq),fun q h=>?_,fun q x h hn hne=>?_⟩
 ·simp[putS] at h
  rcases h with h | h
  ·exact .inl h
  ·exact .inr ⟨0,h.symm⟩
 ·simp[putS,hn] at h
  exact absurd h hne
theorem Grown.iff {F:List Place}{S S' : Nat->Bool}{p:Nat}(h:Grown F S S' p)(hS:Shut1 F (fun q=>S q=true)):Shut1 F (fun q=>S' q=true)/\∀q,S' q=true↔(S q=true\/startS F p q):=by
 obtain⟨h1,h2,h3,h4⟩:=h
 have hsh:Shut1 F (fun q=>S' q=true):=fun q x hq hx hz r hr=>by
  cases hc:S q with
  | true=>exact h1 r (hS q x hc hx hz r hr)
  | false=>exact h4 q x hq hc hx hz r hr
 refine⟨hsh,fun q=>⟨fun h=>h3 q h,fun h=>?_⟩⟩
 rcases h with h | ⟨k,h⟩
 ·exact h1 q h
 ·exact hsh.via h2 h
def outS (S:Nat->Bool)(N:Nat):Nat:=((List.range N).filter (fun p => !S p)).length
theorem filter_le {α:Type}{p q:α->Bool}:∀l:List α,(∀x,p x=true->q x=true)->(l.filter p).length<=(l.filter q).length:=by
 intro l h
 induction l with
 | nil=>exact zzb _
 | cons x r ih=>
  rw[List.filter_cons,List.filter_cons];cases hp:p x with
  | true=>rw[h x hp];simpa using ih
  | false=>
   cases q x with
   | true=>simp;omega
   | false=>simpa using ih
theorem filter_lt {α:Type}{p q:α->Bool}{a:α}:∀l:List α,(∀x,p x=true->q x=true)->a∈l->p a=false->q a=true->(l.filter p).length<(l.filter q).length:=by
 intro l h ha hp hq
 induction l with
 | nil=>cases ha
 | cons x r ih=>
  rw[List.filter_cons,List.filter_cons];rcases List.mem_cons.1 ha with rfl | ha
  ·rw[hp,hq]
   have:=filter_le r h
   simp
   omega
  ·have:=ih ha
   cases hpx:p x with
   | true=>rw[h x hpx];simpa using this
   | false=>
    cases q x with
    | true=>simp;omega
    | false=>simpa using this
theorem outS_le {S S' : Nat->Bool}{N:Nat}(h:∀q,S q=true->S' q=true):outS S' N<=outS S N:=filter_le _ fun x hx=>by
 cases hc:S x with
 | false=>rfl
 | true=>rw[h x hc] at hx;exact hx
theorem outS_lt {S S' : Nat->Bool}{N p:Nat}(h:∀q,S q=true->S' q=true)(hp:p<N)(h1:S p=false)(h2:S' p=true):outS S' N<outS S N:=filter_lt _ (fun x hx=>by
 cases hc:S x with
 | false=>rfl
 | true=>rw[h x hc] at hx;exact hx) (List.mem_range.2 hp) (by rw[h2];rfl) (by rw[h1];rfl)
end Go.Proofs.YtjkebndkeamijaaGreatDoor
