/-
  PROVED HERE: what the texts DAStoreR, DAReg29, DARNew, DARHouse say.
-/
import Derived.Test.YtjkebndkeamijaaGreatDoorCA36
set_option maxRecDepth 100000
set_option maxHeartbeats 20000000
namespace Go.Proofs.YtjkebndkeamijaaGreatDoor
open Go.RowKit
theorem yJ {P:Program}{md:Region.Mode}{ops:Array Oper}{Q:Exit->Act->World->Prop}{S:World->Prop}{fuel:Nat}{listed:Array Bool}{a:Act}{w:World}{i:Nat}{o:Oper}{rs:List Nat}(ho:ops[i]? = some o)(hg:o.guard=none){w' : World}{v:Value}(hrun:∀K:Act->World->Prop,K (a.put o.dst v) w' -> Oper.wp P o a w K Q)(hS:S w')(hn:wpAnyH P md ops Q S fuel (listed.setIfInBounds i true) (a.put o.dst v) w')(hs:AllReadyH P md ops Q S fuel listed a w rs):AllReadyH P md ops Q S fuel listed a w (i::rs) :=
 AllReadyH.cons ho (fun K' hK=>by
  rw[if_pos (by simp[Region.wanted,hg])]
  exact hrun K' (hK.out _ _ hS (fun _=>hn))) hs
theorem gFt (w:World)(g o:Nat)(k:Int)(s:ByteArray)(a:Option Addr)(l c:Nat)(c0:∃u,w.cell? ⟨g,o,none⟩=some u)(f0:w.frozen? ⟨g,o,none⟩=false)(c1:∃u,(w.setCell ⟨g,o,none⟩ (.int .i64 k)).cell? ⟨g,o+1,none⟩=some u)(f1:(w.setCell ⟨g,o,none⟩ (.int .i64 k)).frozen? ⟨g,o+1,none⟩=false)(c2:∃u,((w.setCell ⟨g,o,none⟩ (.int .i64 k)).setCell ⟨g,o+1,none⟩ (.string s)).cell? ⟨g,o+2,none⟩=some u)(f2:((w.setCell ⟨g,o,none⟩ (.int .i64 k)).setCell ⟨g,o+1,none⟩ (.string s)).frozen? ⟨g,o+2,none⟩=false) :
  (storeVar 69 ⟨g,o,none⟩ (.agg #[.int .i64 k,.string s,.slice a l c])).run Tryz.prog w=.ok () (((w.setCell ⟨g,o,none⟩ (.int .i64 k)).setCell ⟨g,o+1,none⟩ (.string s)).setCell ⟨g,o+2,none⟩ (.slice a l c)):=by
 obtain⟨u0,c0⟩:=c0
 obtain⟨u1,c1⟩:=c1
 obtain⟨u2,c2⟩:=c2
 go_simp
theorem gFu (w:World)(g o:Nat)(a:Option Addr)(l c:Nat)(u:Value)(c0:w.cell? ⟨g,o,none⟩=some u)(f0:w.frozen? ⟨g,o,none⟩=false) :
  (storeVar 67 ⟨g,o,none⟩ (.slice a l c)).run Tryz.prog w=.ok () (w.setCell ⟨g,o,none⟩ (.slice a l c)):=by
 go_simp
theorem rU {P:Program}{o:Oper}{a:Act}{w w' : World}{K:Act->World->Prop}{Q:Exit->Act->World->Prop}(ty:TypeId)(x y:Operand)(ho:o.op=.store ty x y)(ad:Addr)(u:Value)(hx:a.eval x=.pointer (some ad))(hy:a.eval y=u)(hr:(storeVar ty ad u).run P w=.ok () w')(h:K (a.put o.dst undef) w'):o.wp P a w K Q:=by
 unfold Oper.wp execOp
 simp only[ho,hx,hy,Instr.storeAt,Instr.sureAddr,Sem.run_bind,Sem.run_pure,Result.andThen_ok,hr]
 exact h
def uD (n:Nat):Code->Option Code
 | .region id ops d=>if id=n then some (.region id ops d) else none
 | .loop c=>uD n c
 | .seq a b=>match uD n a with
  | some c=>some c
  | none=>uD n b
 | .block _ c=>uD n c
 | .scope c=>uD n c
 | .cond _ a b=>match uD n a with
  | some c=>some c
  | none=>uD n b
 | _=>none
noncomputable def hGn:Code:=((Tryz.f17.body.bind (uD 29)).getD .skip)
theorem k03{p:Prop}(h:p:=by
  try simp only[gQ]
  refine gT 7 kr rfl (fun K hK=>?_);rw[if_pos (by rfl)];refine nS _ _ 67 rfl _ _ _ _ rfl rfl HRUN.out ?_;have hS2:=HSC.out _ _ _ HNS.out;refine hK.out _ _ hS2 (fun _=>?_);clear hK K;simp only[List.getElem_toArray,List.getElem_cons_succ,List.getElem_cons_zero,Act.put,List.setIfInBounds_toArray,List.set_cons_zero,List.set_cons_succ];refine nJ 8 (some 152) (v:=?_) rfl rfl kr kr kr (fun c a w h=>hPan c a _ _ w h) (Or.inl ⟨by rfl,?_⟩) hS2 ?_
  rotate_left
  ·intro w hSw
   go_simp
   with_reducible rfl
  try simp only[gQ]
  refine nJ 10 (some 153) (v:=?_) rfl rfl kr kr kr (fun c a w h=>hPan c a _ _ w h) (Or.inl ⟨by rfl,?_⟩) hS2 ?_
  rotate_left
  ·intro w hSw
   go_simp
   with_reducible rfl
  try simp only[gQ]
  refine nJ 11 (some 154) (v:=?_) rfl rfl kr kr kr (fun c a w h=>hPan c a _ _ w h) (Or.inl ⟨by rfl,?_⟩) hS2 ?_
  rotate_left
  ·intro w hSw
   go_simp
   with_reducible rfl
  try simp only[gQ]
  refine wpAnyH_ready (rs:=[9,12]) kr (by simp) (yJ rfl rfl (fun K h=>rU 69 _ _ rfl ⟨g9,p * 3,none⟩ _ rfl rfl RA9 h) sA3 ?_ (yJ rfl rfl (fun K h=>rU 67 _ _ rfl ⟨B,4,none⟩ _ rfl rfl RB12 h) sB1 ?_ AllReadyH.nil))
  ·try simp only[List.getElem_toArray,List.getElem_cons_succ,List.getElem_cons_zero,Act.put,List.setIfInBounds_toArray,List.set_cons_zero,List.set_cons_succ]
   refine wpAnyH_ready (rs:=[12]) kr (by simp) (yJ rfl rfl (fun K h=>rU 67 _ _ rfl ⟨B,4,none⟩ _ rfl rfl RA12 h) sA4 ?_ AllReadyH.nil)
   try simp only[List.getElem_toArray,List.getElem_cons_succ,List.getElem_cons_zero,Act.put,List.setIfInBounds_toArray,List.set_cons_zero,List.set_cons_succ]
   refine wpAnyH_done kr ?_ _;exact hQ.out _ _ _ _ _ _ _ _ _ _ _ _ NA4
  ·try simp only[List.getElem_toArray,List.getElem_cons_succ,List.getElem_cons_zero,Act.put,List.setIfInBounds_toArray,List.set_cons_zero,List.set_cons_succ]
   refine wpAnyH_ready (rs:=[9]) kr (by simp) (yJ rfl rfl (fun K h=>rU 69 _ _ rfl ⟨g9,p * 3,none⟩ _ rfl rfl RB9 h) sB4 ?_ AllReadyH.nil)
   try simp only[List.getElem_toArray,List.getElem_cons_succ,List.getElem_cons_zero,Act.put,List.setIfInBounds_toArray,List.set_cons_zero,List.set_cons_succ]
   refine wpAnyH_done kr ?_ _;exact hQ.out _ _ _ _ _ _ _ _ _ _ _ _ NB4
  ):p:=h
theorem hGr (u0 u1 u2 u3 u4 u5 u6 u7 u8 u9 u10 u11 u12 u15 u16 u17 u18 u19 u20 u21 u22 u23 u24 u25 u26 u27 u28 u29 u30 u31 u32 u33 u34 u35 u36 u37 u38 u39 u40 u41 u42 u43 u44 u45 u46 u47 u48 u49 u50 u51 u52 u53 u54 u55 u56 u57 u58 u59 u60 u61 u62 u63 u64 u65 u66 u67 u68 u69 u70 u71 u72 u73 u74 u75 u76 u77 u78 u79 u80 u81 u82 u83 u84 u85 u86 u87 u88 u89 u90 u91 u92 u93 u94 u95 u96 u97 u98 u99 u100 u101 u102 u103 u104 u105 u106 u107 u108 u109 u110 u111 u112 u113 u114 u115 u116 u117 u118 u119 u120 u121 u122 u123 u124 u125 u126 u127 u128 u129 u130 u131 u132 u133 u134 u135 u136 u137 u138 u139 u140 u141 u142 u143 u144 u145 u146 u147 u148 u149 u150 u151 u152 u153 u154 u155:Value)(Q:Exit->Act->World->Prop)(X6 W1:World)(B Eb:Nat)(tr:Raw)(Tw:DataW Unit)(lv gv:Value)(es:List ByteArray)(p:Nat)(ev:Value)(rs:List Raw)(rk:Int)(rn:ByteArray)(ra:Option Addr)(rl rc:Nat)(hI:NwI W1 B Eb tr Tw lv gv es X6 p ev rs (rk,rn,ra,rl,rc))(hp:p<=100)(s:ByteArray)(hs:es[p]? = some s)
  (hex:∃lo,lo<=X6.heap.size/\Eb<lo/\(∀g,ev.ownBlock=some g->g<lo)/\ExA (fun b=>lo<=b) X6 200 (gO s) (jI (rk,rn,ra,rl,rc)))
  (hPan:∀c a d v w,Q (.panic c) (Act.put a d v) w->Q (.panic c) a w)(hQ:∀(v144 v145 v146 v147 v148 v149 v150 v151 v152 v153 v154:Value) (Z:World) (g9 c9:Nat),NwI W1 B Eb tr Tw lv gv es Z (p+1) (.slice (some ⟨g9,0,none⟩) (p+1) c9) (rs++([(rk,rn,ra,rl,rc)]:List Raw)) (rk,rn,ra,rl,rc)->Q .normal ⟨#[u0,u1,u2,u3,u4,u5,u6,u7,u8,u9,u10,u11,u12,.pointer (some ⟨B,0,none⟩),.pointer (some ⟨Eb,0,none⟩),u15,u16,u17,u18,u19,u20,u21,u22,u23,u24,u25,u26,u27,u28,u29,u30,u31,u32,u33,u34,u35,u36,u37,u38,u39,u40,u41,u42,u43,u44,u45,u46,u47,u48,u49,u50,u51,u52,u53,u54,u55,u56,u57,u58,u59,u60,u61,u62,u63,u64,u65,u66,u67,u68,u69,u70,u71,u72,u73,u74,u75,u76,u77,u78,u79,u80,u81,u82,u83,u84,u85,u86,u87,u88,u89,u90,u91,u92,u93,u94,u95,u96,u97,u98,u99,u100,u101,u102,u103,u104,u105,u106,u107,u108,u109,u110,u111,u112,u113,u114,u115,u116,u117,u118,u119,u120,u121,u122,u123,u124,u125,u126,u127,u128,u129,u130,u131,u132,u133,u134,u135,u136,u137,u138,u139,u140,u141,u142,u143,v144,v145,v146,v147,v148,v149,v150,v151,v152,v153,v154,u155],[]⟩ Z) :
  Code.wp Tryz.prog hGn Q ⟨#[u0,u1,u2,u3,u4,u5,u6,u7,u8,u9,u10,u11,u12,.pointer (some ⟨B,0,none⟩),.pointer (some ⟨Eb,0,none⟩),u15,u16,u17,u18,u19,u20,u21,u22,u23,u24,u25,u26,u27,u28,u29,u30,u31,u32,u33,u34,u35,u36,u37,u38,u39,u40,u41,u42,u43,u44,u45,u46,u47,u48,u49,u50,u51,u52,u53,u54,u55,u56,u57,u58,u59,u60,u61,u62,u63,u64,u65,u66,u67,u68,u69,u70,u71,u72,u73,u74,u75,u76,u77,u78,u79,u80,u81,u82,u83,u84,u85,u86,u87,u88,u89,u90,u91,u92,u93,u94,u95,u96,u97,u98,u99,u100,u101,u102,u103,u104,u105,u106,u107,u108,u109,u110,u111,u112,u113,u114,u115,u116,u117,u118,u119,u120,u121,u122,u123,u124,u125,u126,u127,u128,u129,u130,u131,u132,u133,u134,u135,u136,u137,u138,u139,u140,u141,u142,u143,u144,u145,u146,u147,u148,u149,u150,u151,u152,u153,u154,u155],[]⟩ X6:=by
 conv=>arg 2;whnf
 have hId:=hI.below (X:=X6.drew) (zzd _ _).drew
 obtain⟨g9,c9,Y2,hrun,hNS,hfin,heb⟩:=hId.grow hp
 have hdB:Below X6.drew.heap.size X6.drew (X6.drew.alloc (.cells #[.int .i64 0,.string ⟨#[]⟩,.slice none 0 0] 69)):=(zzd _ _).alloc (zzb _) _
 have cB0:X6.drew.cell? ⟨B,4,none⟩=some ev:=cell_of_row _ B 4 _ _ _ hId.blk
 have cB1:(X6.drew.alloc (.cells #[.int .i64 0,.string ⟨#[]⟩,.slice none 0 0] 69)).cell? ⟨B,4,none⟩=some ev:=cell_of_row _ B 4 _ _ _ (hId.below hdB).blk
 have hc0:X6.drew.cell? ⟨Eb,0,none⟩=some (.int .i64 rk)/\X6.drew.cell? ⟨Eb,1,none⟩=some (.string rn)/\X6.drew.cell? ⟨Eb,2,none⟩=some (.slice ra rl rc):=by
  have hc:=fun q=>cell_of_row _ Eb q _ _ _ hId.eb
  exact⟨hc 0,hc 1,hc 2⟩
 have hS1:(X6.drew.alloc (.cells #[.int .i64 0,.string ⟨#[]⟩,.slice none 0 0] 69)).cell? ⟨Eb,0,none⟩=some (.int .i64 rk)/\(X6.drew.alloc (.cells #[.int .i64 0,.string ⟨#[]⟩,.slice none 0 0] 69)).cell? ⟨Eb,1,none⟩=some (.string rn)/\(X6.drew.alloc (.cells #[.int .i64 0,.string ⟨#[]⟩,.slice none 0 0] 69)).cell? ⟨Eb,2,none⟩=some (.slice ra rl rc):=by
  have hc:=fun q=>cell_of_row _ Eb q _ _ _ (hId.below hdB).eb
  exact⟨hc 0,hc 1,hc 2⟩
 have HSC:Hid (∀(Z:World) (L:List Value) (u:Value),NwS W1 B Eb tr lv gv ev Y2 p g9 c9 Z L u->Z.cell? ⟨Eb,0,none⟩=some (.int .i64 rk)/\Z.cell? ⟨Eb,1,none⟩=some (.string rn)/\Z.cell? ⟨Eb,2,none⟩=some (.slice ra rl rc)):=fun Z L u hZ=>by
  have hc:=fun q=>cell_of_row _ Eb q _ _ _ (heb Z L u hZ)
  exact⟨hc 0,hc 1,hc 2⟩
 have hA:=hNS.three (.int .i64 rk) (.string rn) (.slice ra rl rc)
 obtain⟨A3,RA9,NA3⟩:∃A3,(storeVar 69 ⟨g9,p * 3,none⟩ (.agg #[.int .i64 rk,.string rn,.slice ra rl rc])).run Tryz.prog Y2=.ok () A3/\NwS W1 B Eb tr lv gv ev Y2 p g9 c9 A3 ((((mR rs++([.int .i64 0,.string ⟨#[]⟩,.slice none 0 0]:List Value)).set (p * 3) (.int .i64 rk)).set (p * 3+1) (.string rn)).set (p * 3+2) (.slice ra rl rc)) ev:=⟨_,gFt Y2 g9 (p * 3) rk rn ra rl rc hA.1.1 hA.1.2 hA.2.1.1 hA.2.1.2 hA.2.2.1.1 hA.2.2.1.2,hA.2.2.2⟩
 have hA4:=NA3.slot (.slice (some ⟨g9,0,none⟩) (p+1) c9)
 obtain⟨A4,RA12,NA4⟩:∃A4,(storeVar 67 ⟨B,4,none⟩ (.slice (some ⟨g9,0,none⟩) (p+1) c9)).run Tryz.prog A3=.ok () A4/\NwS W1 B Eb tr lv gv ev Y2 p g9 c9 A4 ((((mR rs++([.int .i64 0,.string ⟨#[]⟩,.slice none 0 0]:List Value)).set (p * 3) (.int .i64 rk)).set (p * 3+1) (.string rn)).set (p * 3+2) (.slice ra rl rc)) (.slice (some ⟨g9,0,none⟩) (p+1) c9):=⟨_,gFu A3 B 4 _ _ _ _ hA4.1 hA4.2.1,hA4.2.2⟩
 have hB4:=hNS.slot (.slice (some ⟨g9,0,none⟩) (p+1) c9)
 obtain⟨B1,RB12,NB1⟩:∃B1,(storeVar 67 ⟨B,4,none⟩ (.slice (some ⟨g9,0,none⟩) (p+1) c9)).run Tryz.prog Y2=.ok () B1/\NwS W1 B Eb tr lv gv ev Y2 p g9 c9 B1 (mR rs++([.int .i64 0,.string ⟨#[]⟩,.slice none 0 0]:List Value)) (.slice (some ⟨g9,0,none⟩) (p+1) c9):=⟨_,gFu Y2 B 4 _ _ _ _ hB4.1 hB4.2.1,hB4.2.2⟩
 have hB:=NB1.three (.int .i64 rk) (.string rn) (.slice ra rl rc)
 obtain⟨B4,RB9,NB4⟩:∃B4,(storeVar 69 ⟨g9,p * 3,none⟩ (.agg #[.int .i64 rk,.string rn,.slice ra rl rc])).run Tryz.prog B1=.ok () B4/\NwS W1 B Eb tr lv gv ev Y2 p g9 c9 B4 ((((mR rs++([.int .i64 0,.string ⟨#[]⟩,.slice none 0 0]:List Value)).set (p * 3) (.int .i64 rk)).set (p * 3+1) (.string rn)).set (p * 3+2) (.slice ra rl rc)) (.slice (some ⟨g9,0,none⟩) (p+1) c9):=⟨_,gFt B1 g9 (p * 3) rk rn ra rl rc hB.1.1 hB.1.2 hB.2.1.1 hB.2.1.2 hB.2.2.1.1 hB.2.2.1.2,hB.2.2.2⟩
 have sA3:=HSC.out _ _ _ NA3
 have sA4:=HSC.out _ _ _ NA4
 have sB1:=HSC.out _ _ _ NB1
 have sB4:=HSC.out _ _ _ NB4
 have HNS:=Hid.mk_ hNS
 have HRUN:=Hid.mk_ hrun
 replace hQ:Hid (∀(v144 v145 v146 v147 v148 v149 v150 v151 v152 v153 v154:Value) (Z:World),NwS W1 B Eb tr lv gv ev Y2 p g9 c9 Z ((((mR rs++([.int .i64 0,.string ⟨#[]⟩,.slice none 0 0]:List Value)).set (p * 3) (.int .i64 rk)).set (p * 3+1) (.string rn)).set (p * 3+2) (.slice ra rl rc)) (.slice (some ⟨g9,0,none⟩) (p+1) c9)->Q .normal ⟨#[u0,u1,u2,u3,u4,u5,u6,u7,u8,u9,u10,u11,u12,.pointer (some ⟨B,0,none⟩),.pointer (some ⟨Eb,0,none⟩),u15,u16,u17,u18,u19,u20,u21,u22,u23,u24,u25,u26,u27,u28,u29,u30,u31,u32,u33,u34,u35,u36,u37,u38,u39,u40,u41,u42,u43,u44,u45,u46,u47,u48,u49,u50,u51,u52,u53,u54,u55,u56,u57,u58,u59,u60,u61,u62,u63,u64,u65,u66,u67,u68,u69,u70,u71,u72,u73,u74,u75,u76,u77,u78,u79,u80,u81,u82,u83,u84,u85,u86,u87,u88,u89,u90,u91,u92,u93,u94,u95,u96,u97,u98,u99,u100,u101,u102,u103,u104,u105,u106,u107,u108,u109,u110,u111,u112,u113,u114,u115,u116,u117,u118,u119,u120,u121,u122,u123,u124,u125,u126,u127,u128,u129,u130,u131,u132,u133,u134,u135,u136,u137,u138,u139,u140,u141,u142,u143,v144,v145,v146,v147,v148,v149,v150,v151,v152,v153,v154,u155],[]⟩ Z):=fun v144 v145 v146 v147 v148 v149 v150 v151 v152 v153 v154 Z hZ=>by
  have hrl:=hI.len;rw[gVv (mR rs) _ _ _ _ _ _ (p * 3) (by rw[oE,hrl])] at hZ;(have e1:mR rs++([.int .i64 rk,.string rn,.slice ra rl rc]:List Value)=mR (rs++([(rk,rn,ra,rl,rc)]:List Raw)):=by rw[gDj];rfl);rw[e1] at hZ;refine hQ v144 v145 v146 v147 v148 v149 v150 v151 v152 v153 v154 Z g9 c9 (hfin Z s hs ?_ hZ);obtain⟨lo,l1,l2,l3,l4⟩:=hex;exact⟨lo,l1,l2,l3,ExA.kept (zzb _) (fun b _ hA=>⟨hA,rfl⟩) _ _ _ l4⟩
 obtain⟨ea,ec,hev⟩:=nO hId.own
 have hpl:(p:Int)<(p:Int)+1:=by omega
 have hp0:(0:Int)<=(p:Int):=by omega
 have hpi:(p:Int)<=100:=by omega
 clear hA hA4 hB hB4 hId hrun hNS hfin heb hdB hI hex hs
 subst hev
 refine wp_region_held_drew (S:=fun X=>X.cell? ⟨Eb,0,none⟩=some (.int .i64 rk)/\X.cell? ⟨Eb,1,none⟩=some (.string rn)/\X.cell? ⟨Eb,2,none⟩=some (.slice ra rl rc)) hmx hc0 (fun hS=>?_)
 refine nJ 0 (some 144) (v:=?_) rfl rfl kr kr kr (fun c a w h=>hPan c a _ _ w h) (Or.inl ⟨by rfl,?_⟩) hS ?_
 rotate_left
 ·intro w hSw
  try go_simp
  with_reducible rfl
 try simp only[gQ]
 refine nJ 1 (some 145) (v:=?_) rfl rfl kr kr kr (fun c a w h=>hPan c a _ _ w h) (Or.inl ⟨by rfl,?_⟩) hS ?_
 rotate_left
 ·intro w hSw
  go_simp
  with_reducible rfl
 try simp only[gQ]
 refine nJ 2 (some 146) (v:=?_) rfl rfl kr kr kr (fun c a w h=>hPan c a _ _ w h) (Or.inl ⟨by rfl,?_⟩) hS ?_
 rotate_left
 ·intro w hSw
  go_simp
  with_reducible rfl
 try simp only[gQ]
 refine nJ 4 (some 148) (v:=?_) rfl rfl kr kr kr (fun c a w h=>hPan c a _ _ w h) (Or.inl ⟨by rfl,?_⟩) hS ?_
 rotate_left
 ·intro w hSw
  obtain⟨q0,q1,q2⟩:=hSw;go_simp
  with_reducible rfl
 try simp only[gQ]
 refine wpAnyH_ready (rs:=[3,6]) kr (by simp) (AllReadyH.cons rfl (fun K hK=>?_) ( AllReadyH.cons rfl (fun K hK=>?_) (AllReadyH.nil)))
 ·rw[if_pos (by rfl)]
  have cb:=cB0;go_simp;refine hK.out _ _ hS (fun _=>?_);clear cb;clear hK K
  try simp only[gQ]
  refine nJ 5 (some 149) (v:=?_) rfl rfl kr kr kr (fun c a w h=>hPan c a _ _ w h) (Or.inl ⟨by rfl,?_⟩) hS ?_
  rotate_left
  ·intro w hSw
   go_simp
   with_reducible rfl
  try simp only[gQ]
  refine gT 6 kr rfl (fun K hK=>?_);rw[if_pos (by rfl)];go_simp;refine hK.out _ _ hS1 (fun _=>?_);clear hK K;exact k03
 ·rw[if_pos (by rfl)]
  go_simp;refine hK.out _ _ hS1 (fun _=>?_);clear hK K
  try simp only[gQ]
  refine gT 3 kr rfl (fun K hK=>?_);rw[if_pos (by rfl)];have cb:(X6.alloc (.cells #[.int .i64 0,.string ⟨#[]⟩,.slice none 0 0] 69)).cell? ⟨B,4,none⟩=some _:=cB1;go_simp;refine hK.out _ _ hS1 (fun _=>?_);clear cb;clear hK K
  try simp only[gQ]
  refine nJ 5 (some 149) (v:=?_) rfl rfl kr kr kr (fun c a w h=>hPan c a _ _ w h) (Or.inl ⟨by rfl,?_⟩) hS1 ?_
  rotate_left
  ·intro w hSw
   go_simp
   with_reducible rfl
  exact k03
theorem k147{p:Prop}(h:p:=by
  clear hokS HNO HOK;go_wp2;go_ret2;exact⟨HBV.out,.inl ⟨by rw[HN.out];decide,by rw[HN.out];rfl⟩⟩
  ):p:=h
theorem k107{p:Prop}(h:p:=by
  go_wp2
  go_roundg (len - i)
  case measure=>omega
  case rel=>exact⟨i+1,oo,oo,by first | rfl | go_num,HNX.out,HBV.out⟩
  ):p:=h
theorem k83{p:Prop}(h:p:=by
  clear hl hG hls hgs;go_enter Tryz.func17,Tryz.ntmps17;go_wp2;go_ret2;exact⟨HR.out,.inl ⟨by rw[HN.out];decide,by rw[HN.out];rfl⟩⟩
  ):p:=h
theorem gRo (whole:ByteArray)(a:Option Addr)(len cap:Nat)(l:List gV)(ga:Option Addr)(gl gc:Nat)(gs:List Grp)(w:World)(hw:whole.size<=9223372036854775807)(hl:rN w a len l)(hG:iS w ga gl gs)(hls:∀x∈l,x.name.size<=9223372036854775807/\x.expr.size<=9223372036854775807)(hgs:∀x∈gs,x.1.size<=9223372036854775807) :
  Calls Tryz.prog 17 #[.string whole,.slice a len cap,.slice ga gl gc] w fun e w' => Below w.heap.size w w' /\ ((rI whole l gs≠0/\e=.returned (.tuple #[.pointer none,.int .i64 (rI whole l gs)]))\/(rI whole l gs=0/\∃B,e=.returned (.tuple #[.pointer (some ⟨B,0,none⟩),.int .i64 0])/\gAg w' B whole a len cap l gs)):=by
 have hll:=hl.1
 have hgl:=hG.1
 have hl63:=hl.2.1
 have hg63:=hG.2.1
 have hli:(len:Int)<=9223372036854775807:=by omega
 have hgi:(gl:Int)<=9223372036854775807:=by omega
 have HR:Hid (Below w.heap.size w w):=zzd _ _
 by_cases h1:15<len
 ·have HN:Hid (rI whole l gs=1):=by
   show rI whole l gs=1
   unfold rI;rw[if_pos (.inl oo)]
  have hd:decide ((15:Int)<(len:Int))=true:=by simp;omega
  exact k83
 have hd1:decide ((15:Int)<(len:Int))=false:=by simp;omega
 by_cases h2:16<gl
 ·have HN:Hid (rI whole l gs=1):=by
   show rI whole l gs=1
   unfold rI;rw[if_pos (.inr oo)]
  have hd:decide ((16:Int)<(gl:Int))=true:=by simp;omega
  exact k83
 have hd2:decide ((16:Int)<(gl:Int))=false:=by simp;omega
 have hnE:rI whole l gs=(open Classical in if l.all okS=true/\pQ (gJ l gs) then kL (whole::l.map (·.expr)) (gJ l gs) else 1):=by
  unfold rI;rw[if_neg oo]
 have HTW:=gMr a len cap l ga gl gc gs w hl hG oo oo (fun x hx=>(hls x hx).1) hgs
 have hnl:(gJ l gs).length=len+1+gl:=by
  unfold gJ;rw[List.length_cons,List.length_append,nB];omega
 have HS:Hid (∀(X:World) (i:Nat),Below w.heap.size w X->i<len->∃b o x,a=some ⟨b,o,none⟩/\l[i]? = some x/\nH X b (o+i * 7) x/\x.expr.size<=9223372036854775807):=fun X i hX hi=>by
  obtain⟨b,o,x,h1,_,h2,h3⟩:=hl.at hi;exact⟨b,o,x,h1,h2,h3 X hX,(hls x (zzj h2)).2⟩
 have HGG:Hid (∀(X:World) (i:Nat),Below w.heap.size w X->i<gl->∃b o x ta tl tc,ga=some ⟨b,o,none⟩/\gs[i]? = some x/\X.cell? ⟨b,o+i * 2,none⟩=some (.string x.1)/\X.cell? ⟨b,o+i * 2+1,none⟩=some (.slice ta tl tc)/\kA w ta tl x.2):=fun X i hX hi=>by
  obtain⟨b,o,x,ta,tl,tc,h1,h2,h3,h4⟩:=hG.at hi;obtain⟨h5,h6⟩:=h4 X hX;exact⟨b,o,x,ta,tl,tc,h1,h2,h5,h6,h3⟩
 have HSL:=Hid.mk_ hl
 have HLL:Hid (l.length=len/\gs.length=gl/\len<=15/\gl<=16/\(gJ l gs).length=len+1+gl):=⟨hll,hgl,oo,oo,hnl⟩
 obtain⟨NE,hNE⟩:∃NE,rI whole l gs=NE:=⟨_,rfl⟩
 rw[hNE] at hnE ⊢
 have HNE:=Hid.mk_ hnE
 have hsi:(len:Int)<=15:=by omega
 have hgi6:(gl:Int)<=16:=by omega
 clear hl hG hls hgs hnE hNE hnl hll hgl
 go_enter Tryz.func17,Tryz.ntmps17
 go_wp2_with fail
 refine HTW.mono ?_
 rintro e V0 ⟨r,rfl,hr,hB0⟩
 have HB0:=Hid.mk_ hB0
 have HRT:=Hid.mk_ hr
 clear HTW hB0 hr
 cases r with
 | true=>
  have HN:Hid (NE=1):=by
   show NE=1
   rw[HNE.out,if_neg (fun h=>(HRT.out.1 rfl) h.2)]
  go_wp2;go_ret2;exact⟨HB0.out,.inl ⟨by rw[HN.out];decide,by rw[HN.out];rfl⟩⟩
 | false=>
 have HRN:Hid (pQ (gJ l gs)):=Classical.byContradiction fun h=>by cases HRT.out.2 h
 clear HRT
 go_wp2
 go_loopg [8] (len+1) (fun gk v wr=>∃i:Nat,i<=len/\len<i+gk/\v=.int .i64 (i:Int)/\(∀(q:Nat) (x:gV),q<i->l[q]? = some x->okS x=true)/\Below w.heap.size w wr)
 case atStart=>exact⟨0,zzn _,oo,rfl,fun q x hq=>absurd hq (Nat.not_lt_zero _),HB0.out⟩
 case round=>
  clear HB0;obtain⟨i,hi,hgk,rfl,hok,hB⟩:=hrel
  by_cases hlt:i<len
  ·obtain⟨b,o,x,rfl,hx,⟨c0,c1,c2,c3,c4,c5,c6⟩,_⟩:=HS.out wr i hB hlt
   (have hii:(i:Int)<(len:Int):=by omega);(have hi0:(0:Int)<=(i:Int):=by omega);(have hd:decide ((i:Int)<(len:Int))=true:=by simpa using hii);obtain⟨V,hV⟩:∃V,V=wr.alloc (.cells #[.string x.name,.string x.expr,.bool x.leaf,.int .i64 x.marks,.int .i64 x.least,.int .i64 x.most,.bool x.lines] 34):=⟨_,rfl⟩;have HBV:Hid (Below w.heap.size w (wr.alloc (.cells #[.string x.name,.string x.expr,.bool x.leaf,.int .i64 x.marks,.int .i64 x.least,.int .i64 x.most,.bool x.lines] 34))):=hB.alloc hB.size _
   have HNO:Hid (okS x=false->NE=1):=fun h=>by
    rw[HNE.out,if_neg (fun q=>?_)]
    have:=List.all_eq_true.1 q.1 x (zzj hx)
    rw[h] at this;cases this
   have HOK:Hid (okS x=true->∀(q:Nat) (y:gV),q<i+1->l[q]? = some y->okS y=true):=fun h q y hq hy=>by
    by_cases e:q=i
    ·subst e
     rw[hx] at hy;cases hy;exact h
    ·exact hok q y oo hy
   have hokS:okS x=((decide (0<=x.marks)&&decide (x.marks<=7))&&((decide (0<=x.least)&&decide (x.least<=x.most)&&decide (x.most<=15))&&(!x.leaf||x.expr.toList.isEmpty))):=rfl;obtain⟨xn,xe,xf,xm,xl,xk,xb⟩:=x;dsimp only at *;generalize okS ⟨xn,xe,xf,xm,xl,xk,xb⟩=ok at *;clear hV V hok hB hx HS HGG
   by_cases d1:xm<0
   ·have q1:decide (xm<0)=true:=by simpa using d1
    have HN:=Hid.mk_ (HNO.out (by rw[hokS,show decide (0<=xm)=false by simpa using d1];rfl));exact k147
   have q1:decide (xm<0)=false:=by simpa using d1
   by_cases d2:7<xm
   ·have q2:decide (7<xm)=true:=by simpa using d2
    have HN:=Hid.mk_ (HNO.out (by rw[hokS,show decide (xm<=7)=false by simpa using d2];simp));exact k147
   have q2:decide (7<xm)=false:=by simpa using d2
   by_cases d3:xl<0
   ·have q3:decide (xl<0)=true:=by simpa using d3
    have HN:=Hid.mk_ (HNO.out (by rw[hokS,show decide (0<=xl)=false by simpa using d3];simp));exact k147
   have q3:decide (xl<0)=false:=by simpa using d3
   by_cases d4:xk<xl
   ·have q4:decide (xk<xl)=true:=by simpa using d4
    have HN:=Hid.mk_ (HNO.out (by rw[hokS,show decide (xl<=xk)=false by simpa using d4];simp));exact k147
   have q4:decide (xk<xl)=false:=by simpa using d4
   by_cases d5:15<xk
   ·have q5:decide (15<xk)=true:=by simpa using d5
    have HN:=Hid.mk_ (HNO.out (by rw[hokS,show decide (xk<=15)=false by simpa using d5];simp));exact k147
   have q5:decide (15<xk)=false:=by simpa using d5
   have hok2:ok=(!xf||xe.toList.isEmpty):=by
    rw[hokS,show decide (0<=xm)=true by simpa using d1,show decide (xm<=7)=true by simpa using d2,show decide (0<=xl)=true by simpa using d3,show decide (xl<=xk)=true by simpa using d4,show decide (xk<=15)=true by simpa using d5]
    rfl
   clear hokS;cases xf with
   | false=>
    have HNX:=Hid.mk_ (HOK.out (by rw[hok2];rfl));clear hok2 HNO HOK;exact k107
   | true=>
    cases he:xe.toList.isEmpty with
    | true=>
     have HNX:=Hid.mk_ (HOK.out (by rw[hok2,he];rfl));clear hok2 HNO HOK;(have he2:xe.toList=[]:=by simpa using he);exact k107
    | false=>
     have HN:=Hid.mk_ (HNO.out (by rw[hok2,he];rfl));clear hok2 HNO HOK;(have he2:¬xe.toList=[]:=by simpa using he);go_wp2;go_ret2;exact⟨HBV.out,.inl ⟨by rw[HN.out];decide,by rw[HN.out];rfl⟩⟩
  ·obtain rfl:i=len:=by omega
   have hd:decide ((i:Int)<(i:Int))=false:=by simp
   have HNE2:Hid (NE=kL (whole::l.map (·.expr)) (gJ l gs)):=by
    show NE=kL (whole::l.map (·.expr)) (gJ l gs)
    have hall:l.all okS=true:=List.all_eq_true.2 fun x hx=>by
     obtain⟨q,hq⟩:=List.getElem?_of_mem hx;exact hok q x (by have:=(zzc.1 hq).1;have:=HLL.out.1;omega) hq
    rw[HNE.out,if_pos ⟨hall,HRN.out⟩]
   have HBR:=Hid.mk_ hB;obtain⟨U,rfl⟩:∃U,U=wr:=⟨wr,rfl⟩;clear hok hB HNE HRN;have HO0:=Hid.mk_ (gWy U);have HBU0:Hid (Below U.heap.size U ((U.alloc (.cells #[.int .i64 0] 3)).alloc (.cells #[.string lR,.slice (some ⟨U.heap.size,0,none⟩) 1 1] 63))):=((zzd _ U).alloc (zzb _) _).alloc (by simp) _;go_wp2
   go_loopg [10,11] (i+1) (fun gk u v wr=>∃(j:Nat) (g c:Nat) (xs:List mD),j<=i/\i<j+gk/\u=.slice (some ⟨g,0,none⟩) xs.length c/\v=.int .i64 (j:Int)/\NmR U.heap.size wr (.slice (some ⟨g,0,none⟩) xs.length c) xs/\xs.map iP=(lR,[0])::jE 0 (l.take j)/\Below U.heap.size U wr)
   case atStart=>exact⟨0,_,_,[(lR,some ⟨U.heap.size,0,none⟩,1,[0])],zzn _,oo,rfl,rfl,HO0.out,by rw[List.take_zero];rfl,HBU0.out⟩
   case round=>
    clear HO0 HBU0;obtain⟨j,g,c,xs,hj,hgk2,rfl,rfl,hown,hnm,hBu⟩:=hrel
    have hxl:xs.length=j+1:=by
     have:=congrArg List.length hnm
     exact k138
    by_cases hlt2:j<i
    ·obtain⟨b,o,x,rfl,hx,⟨c0,c1,c2,c3,c4,c5,c6⟩,_⟩:=HS.out wr j (HBR.out.trans (hBu.mono HBR.out.size)) hlt2
     (have hii:(j:Int)<(i:Int):=by omega);(have hj0:(0:Int)<=(j:Int):=by omega);(have hd:decide ((j:Int)<(i:Int))=true:=by simpa using hii);(have hj15:(j:Int)<=15:=by omega);obtain⟨g', cap', W2,hrun,hown', hBW⟩:=hAz (i:=j) hown (by have:=HLL.out;omega) hBu x.name
     have HN:Hid (NmR U.heap.size W2 (.slice (some ⟨g', 0,none⟩) (xs++[(x.name,some (⟨wr.heap.size,0,none⟩:Addr),1,[(j:Int)+1])]).length cap') (xs++[(x.name,some ⟨wr.heap.size,0,none⟩,1,[(j:Int)+1])])/\(xs++[(x.name,some (⟨wr.heap.size,0,none⟩:Addr),1,[(j:Int)+1])]).map iP=(lR,[0])::jE 0 (l.take (j+1))/\Below U.heap.size U W2):=by
      refine⟨by rw[List.length_append];exact hown', ?_,hBW⟩;rw[List.take_add_one,hx,Option.toList_some,wD,List.map_append,hnm,List.map_singleton,List.cons_append];(have e1:(0+(l.take j).length+1:Nat)=j+1:=by rw[List.length_take];have:=HLL.out.1;omega);rw[e1]
      rfl
     have HRUN:=Hid.mk_ hrun;clear hown hBu hBW hown' hrun HS hx hnm hxl
     go_wp2_with (first
      | (at_builtin;refine iW rfl (.tmp 83) (.tmp 93) 39 rfl _ _ _ _ rfl rfl HRUN.out ?_)
      | fail)
     go_roundg (i - j)
     case measure=>omega
     case rel=>exact⟨j+1,g', cap', _,oo,oo,by rw[List.length_append];rfl,by first | rfl | go_num,HN.out⟩
    ·obtain rfl:j=i:=by omega
     have hd:decide ((j:Int)<(j:Int))=false:=by simp
     have HI0:Hid (NmR U.heap.size wr (.slice (some ⟨g,0,none⟩) xs.length c) xs/\xs.map iP=(lR,[0])::(jE 0 l++gs.take 0)/\Below U.heap.size U wr):=by
      rw[zzm (by have:=HLL.out.1;omega)] at hnm;exact⟨hown,by rw[hnm,List.take_zero,List.append_nil],hBu⟩
     clear hown hBu hnm hxl;go_wp2
     go_loopg [10,12] (gl+1) (fun gk u v wr=>∃(q:Nat) (g c:Nat) (xs:List mD),q<=gl/\gl<q+gk/\u=.slice (some ⟨g,0,none⟩) xs.length c/\v=.int .i64 (q:Int)/\NmR U.heap.size wr (.slice (some ⟨g,0,none⟩) xs.length c) xs/\xs.map iP=(lR,[0])::(jE 0 l++gs.take q)/\Below U.heap.size U wr)
     case atStart=>exact⟨0,g,c,xs,zzn _,oo,rfl,rfl,HI0.out⟩
     case round=>
      clear HI0;obtain⟨q,g,c,xs,hq,hgk3,rfl,rfl,hown,hnm,hBu⟩:=hrel
      have hxl:xs.length=j+1+q:=by
       have:=congrArg List.length hnm
       rw[List.length_map,List.length_cons,List.length_append,nB,List.length_take] at this
       have:=HLL.out
       omega
      by_cases hlt3:q<gl
      ·obtain⟨b,o,x,ta,tl,tc,rfl,hx,c0,c1,hti⟩:=HGG.out wr q (HBR.out.trans (hBu.mono HBR.out.size)) hlt3
       (have hii:(q:Int)<(gl:Int):=by omega);(have hq0:(0:Int)<=(q:Int):=by omega);(have hd2:decide ((q:Int)<(gl:Int))=true:=by simpa using hii);obtain⟨g', cap', W2,hrun,hown', hBW⟩:=gWx (x:=x) (tc:=tc) hown (by have:=HLL.out;omega) hBu (hti.below HBR.out)
       have HN:Hid (NmR U.heap.size W2 (.slice (some ⟨g', 0,none⟩) (xs++[(x.1,ta,tc,x.2)]).length cap') (xs++[(x.1,ta,tc,x.2)])/\(xs++[(x.1,ta,tc,x.2)]).map iP=(lR,[0])::(jE 0 l++gs.take (q+1))/\Below U.heap.size U W2):=by
        refine⟨by rw[List.length_append];exact hown', ?_,hBW⟩;exact k135
       have HRUN:=Hid.mk_ hrun;obtain⟨xn,xt⟩:=x;dsimp only at *;clear hown hBu hBW hown' hrun HGG hx hnm hxl hti
       go_wp2_with (first
        | (at_builtin;refine iW rfl (.tmp 101) (.tmp 106) 39 rfl _ _ _ _ rfl rfl HRUN.out ?_)
        | fail)
       go_roundg (gl - q)
       case measure=>omega
       case rel=>exact⟨q+1,g', cap', _,oo,oo,by rw[List.length_append];rfl,by first | rfl | go_num,HN.out⟩
      ·obtain rfl:q=gl:=by omega
       have hd2:decide ((q:Int)<(q:Int))=false:=by simp
       have hnm2:xs.map iP=gJ l gs:=by
        rw[zzm (by have:=HLL.out;omega)] at hnm;exact hnm
       have hng:iS wr (some ⟨g,0,none⟩) xs.length (gJ l gs):=by
        rw[<-hnm2];exact hown.groups rfl (by have:=HLL.out;omega)
       have HXL:Hid (xs.length=(gJ l gs).length):=by
        show xs.length=(gJ l gs).length
        rw[<-hnm2,List.length_map]
       obtain⟨nl,hnl⟩:∃nl,xs.length=nl:=⟨_,rfl⟩;rw[hnl] at HXL hng ⊢;obtain⟨W1,rfl⟩:∃W1,W1=wr:=⟨wr,rfl⟩;have HBW1:=Hid.mk_ (HBR.out.trans (hBu.mono HBR.out.size));have HNG:=Hid.mk_ hng;obtain⟨X1,hX1⟩:∃X1,X1=W1.alloc (.cells #[.int .i64 0,.string ⟨#[]⟩,.slice none 0 0,.slice a j cap,.slice none 0 0,.slice (some ⟨g,0,none⟩) nl c] 71):=⟨_,rfl⟩;(have hB1:Below W1.heap.size W1 X1:=by rw[hX1];exact(zzd _ _).alloc (zzb _) _);have HP1:=yY whole hw (some ⟨g,0,none⟩) nl c (gJ l gs) X1 (hng.below hB1);(have HST:Hid (∀(X2:World) (tr:Raw),Below X1.heap.size X1 X2->ExA (fun b=>X1.heap.size<=b) X2 200 (gO whole) (jI tr)->NwF W1 X2 tr (gO whole) (.slice a j cap) (.slice (some ⟨g,0,none⟩) nl c) (l.map (·.expr))):=fun X2 tr h1 h2=>by rw[hX1] at h1 h2;exact hAy h1 h2);obtain⟨F,hF⟩:∃F,kI whole (gJ l gs)=F:=⟨_,rfl⟩;rw[hF] at HP1;have HB1:=Hid.mk_ hB1;have HFF:=Hid.mk_ hF;clear hown hnm hnm2 hBu hxl HGG hng hnl hB1 hF hgk hgk2 hgk3;(go_wp2_with fail);rw[<-hX1];clear hX1;refine HP1.mono ?_;rintro e X2 ⟨hB2,⟨k,nm,ta,tl,tc⟩,hT2,rfl⟩;have hF2:=HST.out X2 (k,nm,ta,tl,tc) hB2 hT2;unfold NwF at hF2;simp only[uH] at hF2;obtain⟨⟨e0,e1,e2⟩,⟨u0,m0,z0⟩,⟨u1,m1,z1⟩,⟨u2,m2,z2⟩,hI0⟩:=hF2;have HI0:=Hid.mk_ hI0;have HB2:=Hid.mk_ (HB1.out.trans (hB2.mono HB1.out.size));unfold jI;dsimp only at *;clear hB2 hT2 HP1 HST hI0 HB1
       by_cases hf0:F=0
       ·subst hf0
        have hz:((0:Int) != 0)=false:=rfl;go_wp2;generalize hX4:World.setCell _ _ (.slice ta tl tc)=X4 at HI0 ⊢;clear e0 e1 e2 m0 z0 m1 z1 m2 z2 hX4
        have HS4:Hid (∀(X:World) (i:Nat),Below W1.heap.size W1 X->i<j->∃b o x,a=some ⟨b,o,none⟩/\l[i]? = some x/\X.cell? ⟨b,o+i * 7+1,none⟩=some (.string x.expr)/\x.expr.size<=9223372036854775807):=fun X i hX hi=>by
         obtain⟨b,o,x,q1,q2,q3,q4⟩:=HS.out X i (HBW1.out.trans (hX.mono HBW1.out.size)) hi;exact⟨b,o,x,q1,q2,q3.2.1,q4⟩
        (have HP4:Hid (∀(X:World) (s:ByteArray),Below W1.heap.size W1 X->s.size<=9223372036854775807->Calls Tryz.prog 59 #[.string s,.slice (some ⟨g,0,none⟩) nl c] X fun e w' => Below X.heap.size X w' /\ ∃r:Raw,ExA (fun b=>X.heap.size<=b) w' 200 (gO s) (jI r)/\e=.returned (.tuple #[jI r,.int .i64 (kI s (gJ l gs))])):=fun X s hX hs=>yY s hs (some ⟨g,0,none⟩) nl c (gJ l gs) X (HNG.out.below hX));have HZ0:Hid (kI whole (gJ l gs)=0):=HFF.out;have hji:(j:Int)<=15:=hsi;obtain⟨Eb,hEb⟩:∃Eb,X2.heap.size=Eb:=⟨_,rfl⟩;obtain⟨B,hBB⟩:∃B,W1.heap.size=B:=⟨_,rfl⟩;rw[hEb,hBB] at HI0 ⊢;clear HS HB2 HFF
        go_loopg [15,16] (j+1) (fun gk _ v wr=>∃(p:Nat) (ev:Value) (rs:List Raw) (er:Raw),p<=j/\j<p+gk/\v=.int .i64 (p:Int)/\NwI W1 B Eb (k,nm,ta,tl,tc) (gO whole) (.slice a j cap) (.slice (some ⟨g,0,none⟩) nl c) (l.map (·.expr)) wr p ev rs er/\∀(y:Nat) (x:gV),y<p->l[y]? = some x->kI x.expr (gJ l gs)=0)
        case atStart=>exact⟨0,.slice none 0 0,[],(k,nm,ta,tl,tc),zzn _,oo,rfl,HI0.out,fun y x hy=>absurd hy (Nat.not_lt_zero _)⟩
        case round=>
         clear HI0;obtain⟨p,ev,rs,er,hp,hgp,rfl,hI,hz4⟩:=hrel
         by_cases hlt4:p<j
         ·obtain⟨b,o,x,rfl,hx,c1,hxs⟩:=HS4.out wr p hI.bel hlt4
          (have hii:(p:Int)<(j:Int):=by omega);(have hp0:(0:Int)<=(p:Int):=by omega);(have hd4:decide ((p:Int)<(j:Int))=true:=by simpa using hii);have HPX:=HP4.out wr x.expr hI.bel hxs;obtain⟨f,hf⟩:∃f,kI x.expr (gJ l gs)=f:=⟨_,rfl⟩;rw[hf] at HPX;have HI:=Hid.mk_ hI;have HZ4:Hid ((∀(y:Nat) (x:gV),y<p->l[y]? = some x->kI x.expr (gJ l gs)=0)/\l[p]? = some x/\kI x.expr (gJ l gs)=f):=⟨hz4,hx,hf⟩;obtain⟨xx,hxx⟩:∃xx,x.expr=xx:=⟨_,rfl⟩;rw[hxx] at c1 HPX;have HXX:=Hid.mk_ hxx;clear hI hz4 hx hf HS4 HP4 hxx hxs;(go_wp2_with fail);refine HPX.mono ?_;rintro e X5 ⟨hB5,⟨rk,rn,ra,rl,rc⟩,hT5,rfl⟩;have hI5:=HI.out.below hB5;have HEB:=Hid.mk_ hI5.eb;have HI6:=Hid.mk_ (hI5.put (rk,rn,ra,rl,rc))
          have HT6:Hid (∃lo,lo<=(X5.setRow Eb (uH (rk,rn,ra,rl,rc))).heap.size/\Eb<lo/\(∀g,ev.ownBlock=some g->g<lo)/\ExA (fun b=>lo<=b) (X5.setRow Eb (uH (rk,rn,ra,rl,rc))) 200 (gO xx) (jI (rk,rn,ra,rl,rc))):=by
           have hEl:=(zza.1 HI.out.eb).1;refine⟨wr.heap.size,by rw[size_setRow];exact hB5.size,hEl,fun g hg=>(gC HI.out.own hg).1,?_⟩;exact ExA.kept (by rw[size_setRow];exact zzb _) (fun b hb hA=>⟨hA,setRow_other _ _ _ _ oo⟩) _ _ _ hT5
          simp only[uH] at HEB HI6 HT6;unfold jI;dsimp only at *;clear hB5 hT5 hI5 HPX
          by_cases hf0:f=0
          ·subst hf0
           have hfz:((0:Int) != 0)=false:=rfl;(go_wp2_with (refine wpList_store_row rfl 69 _ _ rfl Eb #[.int .i64 rk,.string rn,.slice ra rl rc] rfl rfl 69 _ HEB.out gE rfl (jF _ _ _ _ _) ?_));generalize hX6:World.setRow X5 Eb #[.int .i64 rk,.string rn,.slice ra rl rc]=X6 at HI6 HT6 ⊢;clear hX6 HEB
           have HES:Hid ((l.map (·.expr))[p]? = some xx):=by
            show (l.map (·.expr))[p]? = some xx
            obtain⟨z1,z2,z3⟩:=HZ4.out;rw[List.getElem?_map,z2];exact congrArg some HXX.out
           have HFIN:Hid (∀(y:Nat) (u:gV),y<p+1->l[y]? = some u->kI u.expr (gJ l gs)=0):=fun y u hy hu=>by
            obtain⟨z1,z2,z3⟩:=HZ4.out
            by_cases e:y=p
            ·subst e
             rw[z2] at hu;cases hu;exact z3
            ·exact z1 y u oo hu
           refine hGr _ _ _ _ _ _ _ _ _ _ _ _ _ _ _ _ _ _ _ _ _ _ _ _ _ _ _ _ _ _ _ _ _ _ _ _ _ _ _ _ _ _ _ _ _ _ _ _ _ _ _ _ _ _ _ _ _ _ _ _ _ _ _ _ _ _ _ _ _ _ _ _ _ _ _ _ _ _ _ _ _ _ _ _ _ _ _ _ _ _ _ _ _ _ _ _ _ _ _ _ _ _ _ _ _ _ _ _ _ _ _ _ _ _ _ _ _ _ _ _ _ _ _ _ _ _ _ _ _ _ _ _ _ _ _ _ _ _ _ _ _ _ _ _ _ _ _ _ _ _ _ _ _ _ _ X6 W1 B Eb (k,nm,ta,tl,tc) (gO whole) _ _ (l.map (·.expr)) p ev rs rk rn ra rl rc HI6.out oo xx HES.out HT6.out (fun _ _ d _ _ h=>by cases d<;>exact h) (fun v144 v145 v146 v147 v148 v149 v150 v151 v152 v153 v154 Z g9 c9 h9=>?_);have HNX:=Hid.mk_ h9;clear h9 HES HI6 HT6 HZ4 HI HXX;go_wp2
           go_roundg (j - p)
           case measure=>omega
           case rel=>exact⟨p+1,_,_,(rk,rn,ra,rl,rc),oo,oo,by first | rfl | go_num,HNX.out,HFIN.out⟩
          ·have hfz:(f != 0)=true:=by simpa using hf0
           have HN:Hid (NE=f):=by
            show NE=f
            obtain⟨z1,z2,z3⟩:=HZ4.out;rw[HNE2.out,gJj (whole::l.map (·.expr)) (gJ l gs) (p+1) x.expr (by rw[List.getElem?_cons_succ,List.getElem?_map,z2];rfl) (fun y s hy hs=>?_) (by rw[z3];exact hf0),z3];cases y with
            | zero=>cases hs;exact HZ0.out
            | succ y=>
             rw[List.getElem?_cons_succ,List.getElem?_map] at hs;cases hq:l[y]? with
             | none=>rw[hq] at hs;cases hs
             | some u=>rw[hq] at hs;cases hs;exact z1 y u oo hq
           have HE:Hid (Below w.heap.size w (X5.setRow Eb #[.int .i64 rk,.string rn,.slice ra rl rc])):=HBW1.out.trans (HI6.out.bel.mono HBW1.out.size);(go_wp2_with (refine wpList_store_row rfl 69 _ _ rfl Eb #[.int .i64 rk,.string rn,.slice ra rl rc] rfl rfl 69 _ HEB.out gE rfl (jF _ _ _ _ _) ?_));go_ret2;exact⟨HE.out,.inl ⟨by rw[HN.out];exact hf0,by rw[HN.out];rfl⟩⟩
         ·obtain rfl:p=j:=by omega
          have hd4:decide ((p:Int)<(p:Int))=false:=by simp
          have HN:Hid (NE=0):=by
           show NE=0
           rw[HNE2.out];(refine gDv _ _ fun y s hs=>?_);cases y with
           | zero=>cases hs;exact HZ0.out
           | succ y=>
            rw[List.getElem?_cons_succ,List.getElem?_map] at hs;cases hq:l[y]? with
            | none=>rw[hq] at hs;cases hs
            | some u=>rw[hq] at hs;cases hs;exact hz4 y u (by have:=(zzc.1 hq).1;have:=HLL.out.1;omega) hq
          have HE:Hid (gAg wr B whole a p cap l gs/\Below w.heap.size w wr):=by
           refine⟨?_,HBW1.out.trans (hI.bel.mono HBW1.out.size)⟩;have hxl:=HXL.out;rw[hxl] at hI;exact hI.made (HSL.out.below HBW1.out) (by rw[<-hxl];exact HNG.out) (HNE2.out.symm.trans HN.out) HLL.out.2.2.1
          clear hI hz4 HS4 HP4;go_wp2;go_ret2;exact⟨HE.out.2,.inr ⟨HN.out,B,rfl,HE.out.1⟩⟩
       ·have hz:(F != 0)=true:=by simpa using hf0
        have HN:Hid (NE=F):=by
         show NE=F
         rw[HNE2.out,kL,if_pos (by rw[HFF.out];exact hf0)];exact HFF.out
        have HE:Hid (Below w.heap.size w (X2.alloc (.cells #[.int .i64 k,.string nm,.slice ta tl tc] 69))):=by
         have h3:Below W1.heap.size W1 (X2.alloc (.cells #[.int .i64 k,.string nm,.slice ta tl tc] 69)):=HB2.out.alloc HB2.out.size _;exact HBW1.out.trans (h3.mono HBW1.out.size)
        go_wp2;go_ret2;exact⟨HE.out,.inl ⟨by rw[HN.out];exact hf0,by rw[HN.out];rfl⟩⟩
theorem gUx (w:World)(o1 o2 o3:Obj):Below w.heap.size w (((w.alloc o1).alloc o2).alloc o3)/\Below (w.alloc o1).heap.size (w.alloc o1) (((w.alloc o1).alloc o2).alloc o3)/\(((w.alloc o1).alloc o2).alloc o3).heap[w.heap.size+1]? = some o2/\(((w.alloc o1).alloc o2).alloc o3).heap[w.heap.size+2]? = some o3:=by
 have h1:Below w.heap.size w (w.alloc o1):=(zzd _ w).alloc (zzb _) _
 have h2:=h1.alloc h1.size o2
 have g1:Below (w.alloc o1).heap.size (w.alloc o1) ((w.alloc o1).alloc o2):=(zzd _ _).alloc (zzb _) _
 have e1:=World.alloc_heap_new (w.alloc o1) o2
 have e2:=World.alloc_heap_new ((w.alloc o1).alloc o2) o3
 rw[World.size_alloc] at e1
 rw[World.size_alloc,World.size_alloc] at e2
 exact⟨h2.alloc h2.size o3,g1.alloc g1.size o3,(zzf _ _ _ (by rw[World.size_alloc,World.size_alloc];omega)).trans e1,e2⟩
theorem gKt (w:World):Calls Tryz.prog 9 #[] w fun e w' => ∃B a,e=.returned (.pointer (some ⟨B,0,none⟩))/\gAg w' B kK a 7 7 jB lI/\Below w.heap.size w w' := by
 have HN:Hid (∀(o1 o2 o3:Obj),rN (w.alloc o1) (some ⟨w.heap.size,0,none⟩) 7 jB->iS (((w.alloc o1).alloc o2).alloc o3) (some ⟨w.heap.size+2,0,none⟩) 1 lI->Calls Tryz.prog 17 #[.string ⟨#[98,108,111,99,107,43]⟩,.slice (some ⟨w.heap.size,0,none⟩) 7 7,.slice (some ⟨w.heap.size+2,0,none⟩) 1 1] (((w.alloc o1).alloc o2).alloc o3) fun e w' => Below w.heap.size w w' /\ ∃B,e=.returned (.tuple #[.pointer (some ⟨B,0,none⟩),.int .i64 0])/\gAg w' B kK (some ⟨w.heap.size,0,none⟩) 7 7 jB lI):=fun o1 o2 o3 h1 h2=>by
  obtain⟨a1,a2,_,_⟩:=gUx w o1 o2 o3;refine(gRo kK (some ⟨w.heap.size,0,none⟩) 7 7 jB (some ⟨w.heap.size+2,0,none⟩) 1 1 lI _ (by decide) (h1.below a2) h2 (by decide) (by decide)).mono ?_;rintro e w' ⟨hB,⟨hn,_⟩ | ⟨_,B,rfl,hm⟩⟩
  ·exact absurd gJi hn
  ·exact⟨a1.trans (hB.mono a1.size),B,rfl,hm⟩
 have HG:Hid (∀(o1:Obj),iS (((w.alloc o1).alloc (.cells #[.int .i64 1,.int .i64 2,.int .i64 3,.int .i64 4,.int .i64 5,.int .i64 7] 3)).alloc (.cells #[.string ⟨#[98,108,111,99,107]⟩,.slice (some ⟨w.heap.size+1,0,none⟩) 6 6] 63)) (some ⟨w.heap.size+2,0,none⟩) 1 lI):=fun o1=>by
  obtain⟨_,_,a3,a4⟩:=gUx w o1 (.cells #[.int .i64 1,.int .i64 2,.int .i64 3,.int .i64 4,.int .i64 5,.int .i64 7] 3) (.cells #[.string ⟨#[98,108,111,99,107]⟩,.slice (some ⟨w.heap.size+1,0,none⟩) 6 6] 63);exact gBl _ _ _ a4 a3
 go_enter Tryz.func9,Tryz.ntmps9
 go_wp2_with fail
 refine(HN.out _ _ _ (gDe _ _ _ (World.alloc_heap_new w _)) (HG.out _)).mono ?_
 rintro e X ⟨hB,B,rfl,hm⟩
 have HE:=Hid.mk_ (And.intro hm hB)
 clear hm hB HN HG
 go_wp2
 go_ret
 exact⟨B,_,rfl,HE.out.1,HE.out.2⟩
end Go.Proofs.YtjkebndkeamijaaGreatDoor
