/-
  PROVED HERE: what the texts DFFKidsO, DFFKidsI, DFFKids, DFWordO say.
-/
import Derived.Test.YtjkebndkeamijaaGreatDoorCF32
set_option maxRecDepth 100000
set_option maxHeartbeats 2000000
namespace Go.Proofs.YtjkebndkeamijaaGreatDoor
open Go.RowKit
theorem below_of_drewN {B:Nat}{w W:World}{q:Nat}(h:Below B (w.drewN q) W):Below B w W:=⟨h.os,h.tape,h.output,h.size,h.block⟩
theorem k49{p:Prop}(h:p:=by
  intro W u n xs g1 g2 g3 g4;refine(fpass_calls w.heap.size w.heap.size v R k x W g1 g4 oo).mono ?_;rintro e w' ⟨e1,v', e2,e3,e4⟩;obtain⟨f1,f2,f3⟩:=kids_pass g1 g2 g3 e3 e4;exact⟨e1,v', e2,f1,f2,f3⟩
  ):p:=h
theorem k38{p:Prop}(h:p:=by
  obtain⟨a', cap', hu', hr⟩:=rowc_of_owns hu;rw[<-HE.out] at hr hu';obtain⟨N,hN⟩:∃N,K.length=N:=⟨_,rfl⟩;have HN:Hid (K.length=N):=hN;rw[hN] at hr hu';clear hSi hG hS hu hA hl hN;subst hu';go_wp2;go_ret
  first | exact⟨a', ⟨cap', by rw[HN.out];rfl⟩,by rw[HN.out];exact hr,hB⟩ | exact⟨a', cap', by rw[HN.out];rfl,by rw[HN.out];exact hr,hB⟩
  ):p:=h
theorem k22{p:Prop}(h:p:=by
  (go_wp2_with fail);refine(HTop.out _).mono ?_;rintro e W0 ⟨rfl,q,rfl⟩;(go_wp2_with fail);refine(HPart _).mono ?_;rintro e W1 ⟨rfl,hB1⟩;obtain⟨t0,t1,t2,t3,hB2⟩:=tok_kept (below_of_drewN hB1);have sP:=hS.below hB2;have uP:=own_below hu hB2 HSz;have aP:=hA;have bP:=hB.trans (hB2.mono HSz);have HZ1:=hB2.size;clear hB2 hB1 HPart HTop;(go_wp2_with fail);refine(HPass.out _ _ _ _ sP uP aP bP.size).mono ?_;rintro e W2 ⟨rfl,v', s2,u2,a2,b2⟩;have bQ:=bP.trans b2;clear sP uP aP bP b2 HPass;obtain⟨-,s33,-⟩:=s2.cells;go_wp2
  go_roundw
  case rel=>exact⟨k+1,v', R', out,oo,oo,rfl,oo,HOL.out,s2,by simpa using u2,a2,HE1.out,HE2.out,bQ⟩
  case measure=>simp[intOf];omega
  ):p:=h
theorem k14{p:Prop}(h:p:=by
  (go_wp2_with fail);refine(HTop.out _).mono ?_;rintro e W0 ⟨rfl,q,rfl⟩;have bT:Below (wr.alloc (.cells #[.int .i64 xk,.int .i64 xt,.int .i64 xn,.int .i64 xm] 58)).heap.size (wr.alloc (.cells #[.int .i64 xk,.int .i64 xt,.int .i64 xn,.int .i64 xm] 58)) ((wr.alloc (.cells #[.int .i64 xk,.int .i64 xt,.int .i64 xn,.int .i64 xm] 58)).drewN q):=below_drewN (zzd _ _) _;obtain⟨t0,t1,t2,t3,hB2⟩:=tok_kept bT;have sP:=hS.below hB2;have uP:=own_below hu hB2 HSz;have aP:=hA;have bP:=hB.trans (hB2.mono HSz);clear hB2 bT HPart HTop;(go_wp2_with fail);refine(HPass.out _ _ _ _ sP uP aP bP.size).mono ?_;rintro e W2 ⟨rfl,v', s2,u2,a2,b2⟩;have bQ:=bP.trans b2;clear sP uP aP bP b2 HPass;obtain⟨-,s33,-⟩:=s2.cells;go_wp2
  go_roundw
  case rel=>exact⟨k+1,v', R', out,oo,oo,rfl,oo,HOL.out,s2,by simpa using u2,a2,HE1.out,HE2.out,bQ⟩
  case measure=>simp[intOf];omega
  ):p:=h
theorem k05{p:Prop}(h:p:=by
  (go_wp2_with fail);refine(HTop.out _).mono ?_;rintro e W0 ⟨rfl,q,rfl⟩;(go_wp2_with fail);refine(HPart _).mono ?_;rintro e W1 ⟨rfl,hB1⟩;obtain⟨t0,t1,t2,t3,hB2⟩:=tok_kept (below_of_drewN hB1);have sP:=hS.below hB2;have uP:=own_below hu hB2 HSz;have aP:=hA;have bP:=hB.trans (hB2.mono HSz);have HZ1:=hB2.size
  have HT1:wr.heap.size<W1.heap.size:=by
   have:=hB1.size
   simp at this;omega
  clear hB2 hB1 HPart HTop hS hu hA;(go_wp2_with (at_builtin;refine wpList_append_own_at _ rfl _ _ 61 rfl w.heap.size 3 i0 (.int .i64 0) 1 8 Tryz.underlying61 hi hz0 hz1 hz2 rfl (by decide) _ _ _ rfl (uP.alloc _) ⟨W1.heap.size,0,none⟩ 1 1 [.int .i64 (k:Int)] rfl rfl (cell_one_new _ _ _) (by simp[Value.oneCell']) (by unfold maxLen;omega) oo (by simp;omega) ?_;intro v2 w2 hown2 hgrow hnil2 hat;obtain⟨sP2,aP2,hk2,bP2⟩:=kids_append sP uP aP hgrow hat;have hT:=hk2 wr.heap.size HT1 (fun e=>Nat.lt_irrefl _ (HTu.out _ e));have r0:w2.cell? ⟨wr.heap.size,0,none⟩=some (.int .i64 xk):=(zzi (a:=⟨wr.heap.size,0,none⟩) hT).trans t0;have r1:w2.cell? ⟨wr.heap.size,1,none⟩=some (.int .i64 xt):=(zzi (a:=⟨wr.heap.size,1,none⟩) hT).trans t1;have r2:w2.cell? ⟨wr.heap.size,2,none⟩=some (.int .i64 xn):=(zzi (a:=⟨wr.heap.size,2,none⟩) hT).trans t2;have r3:w2.cell? ⟨wr.heap.size,3,none⟩=some (.int .i64 xm):=(zzi (a:=⟨wr.heap.size,3,none⟩) hT).trans t3;have bP3:=bP.trans bP2;clear sP uP aP bP hk2 bP2 hT t0 t1 t2 t3 hgrow hat hnil2));refine(HPass.out _ _ _ _ sP2 hown2 aP2 bP3.size).mono ?_;rintro e W2 ⟨rfl,v', s2,u2,a2,b2⟩;have bQ:=bP3.trans b2;clear sP2 hown2 aP2 bP3 b2 HPass;obtain⟨-,s33,-⟩:=s2.cells;go_wp2
  go_roundw
  case rel=>exact⟨k+1,v', R', out++[(k:Int)],oo,oo,rfl,oo,HOL.out,s2,by simpa using u2,a2,HE1.out,HE2.out,bQ⟩
  case measure=>simp[intOf];omega
  ):p:=h
theorem fkids_out (a:Option Addr)(len cap:Nat)(l:List Tok)(w:World)(hl:Toks w a len l)(hsz:len<=4398046511104) :
  Calls Tryz.prog 42 #[.slice a len cap,.int .i64 (-1)] w fun e w' => ∃a' cap', e=.returned (.slice a' (kids l (-1)).length cap')/\RowC .i64 w' a' (kids l (-1)).length cap' (kids l (-1))/\Below w.heap.size w w' := by
 obtain⟨i0,hi,hz0,hz1,hz2⟩:=info_parts info3
 have hL:=hl.1
 have HG0:Hid (Gathers l (-1) 0 [] (kids l (-1))):=.inr ⟨oo,by unfold kids;rw[if_neg oo];rfl⟩
 have HS0:Hid (opened l ((0:Nat):Int)=[]):=opened_zero l
 have HN0:Hid (Stk (w.alloc (.cells zeros 111)) w.heap.size w.heap.size (.slice none 0 0) []):=stk_new w
 have HB0:Hid (∀o,Below w.heap.size w (w.alloc o)):=fun o=>(zzd _ w).alloc (zzb _) o
 generalize kids l (-1)=K at *
 go_enter Tryz.func42,Tryz.ntmps42
 go_wp2
 go_loopw [5,7] (fun u u7 w' => ∃(k:Nat) (v:Value) (R out:List Int),k<=len/\0<=k/\u7=.int .i64 (k:Int)/\R.length<=k/\out.length<=k/\Stk w' w.heap.size w.heap.size v R/\w'.ownsRow w.heap.size 3 1 u out.length (out.map (Value.int .i64))/\Apart u v/\opened l (k:Int)=R/\Gathers l (-1) k out K/\Below w.heap.size w w') (fun _ u7 _=>len - (intOf u7).toNat)
 case atStart=>exact⟨0,_,[],[],oo,oo,by first | (simp;done) | (simp;decide),by simp,by simp,HN0.out,World.ownsRow_nil _ _ _ _,fun _ h=>by simp[Value.ownBlock] at h,HS0.out,HG0.out,HB0.out _⟩
 case round=>
  obtain⟨k,v,R,out,hk,hik,rfl,hR,hO,hS,hu,hA,hSi,hG,hB⟩:=hrel;clear HS0 HG0 HN0 HB0
  by_cases hlt:k<len
  ·obtain⟨b,o,x,rfl,hbl,hx,hc⟩:=hl.token hlt
   obtain⟨c0,c1,c2,c3⟩:=hc wr hB
   have hst0:Hid (opened l ((k+1:Nat):Int)=turn x k R/\Gathers l (-1) (k+1) (kept (-1) x k R out) K):=by
    show _/\_
    rw[opened_succ l k x hx,hSi];exact⟨rfl,by have:=kids_out oo hx hG;rw[hSi] at this;exact this⟩
   have hst:=hst0.out;clear hst0;have HL:=turn_length_le x k R
   have HOL:Hid ((kept (-1) x k R out).length<=k+1):=by
    show (kept (-1) x k R out).length<=k+1
    unfold kept
    split<;>first | omega | (simp;omega)
   (have HTop:Hid (∀o,Calls Tryz.prog 78 #[.pointer (some ⟨w.heap.size,0,none⟩)] (wr.alloc o) fun e w' => e=.returned (.int .i64 (R.getLast?.getD (-1)))/\∃q,w' = (wr.alloc o).drewN q):=fun o=>ftop_calls _ _ _ _ _ (hS.alloc o) oo);have HPart:=fun W=>fispart_calls x W
   have HPass:Hid (∀W u (n:Nat) (xs:List Value),Stk W w.heap.size w.heap.size v R->W.ownsRow w.heap.size 3 1 u n xs->Apart u v->w.heap.size<=W.heap.size->Calls Tryz.prog 69 #[.pointer (some ⟨w.heap.size,0,none⟩),.int .i64 (k:Int),tokV x] W fun e w' => e=.returned (.tuple #[])/\∃v', Stk w' w.heap.size w.heap.size v' (turn x k R)/\w'.ownsRow w.heap.size 3 1 u n xs/\Apart u v' /\ Below w.heap.size W w'):=by
    exact k49
   have HSz:=hB.size;(have HTu:Hid (∀j,u5.ownBlock=some j->j<wr.heap.size):=fun j hj=>(own_base hu j hj).2.1);rw[part_kept] at hst HOL;clear hc hl hx hSi hG;generalize turn x k R=R' at *;generalize hy:R.getLast?.getD (-1)=y at *;generalize part x=pq at *;obtain⟨xk,xt,xn,xm⟩:=x;simp only[tokV] at *
   by_cases hyi:y = -1
   ·subst hyi
    cases pq
    ·rw[if_neg (fun h=>by simp at h)] at hst HOL
     obtain⟨g1,g2⟩:=hst;have HE1:Hid (opened l ((k+1:Nat):Int)=R'):=g1;have HE2:Hid (Gathers l (-1) (k+1) (out) K):=g2;clear g1 g2;exact k22
    ·rw[if_pos ⟨rfl,rfl⟩] at hst HOL
     obtain⟨g1,g2⟩:=hst;have HE1:Hid (opened l ((k+1:Nat):Int)=R'):=g1;have HE2:Hid (Gathers l (-1) (k+1) (out++[(k:Int)]) K):=g2;clear g1 g2;exact k05
   ·have ey:(y == -1)=false:=by simpa using hyi
    rw[if_neg (fun h=>hyi h.1)] at hst HOL;obtain⟨g1,g2⟩:=hst;have HE1:Hid (opened l ((k+1:Nat):Int)=R'):=g1;have HE2:Hid (Gathers l (-1) (k+1) (out) K):=g2;clear g1 g2;exact k14
  ·obtain rfl:k=len:=by omega
   have HE:Hid (K=out):=kids_none (l:=l) (i := -1) oo (by rw[hL];exact hG);exact k38
theorem k25{p:Prop}(h:p:=by
  (go_wp2_with fail);refine(HPass.out _ _ _ _ sP uP aP bP.size).mono ?_;rintro e W2 ⟨rfl,v', s2,u2,a2,b2⟩;have bQ:=bP.trans b2;clear sP uP aP bP b2 HPass;obtain⟨-,s33,-⟩:=s2.cells;simp only[List.length_nil] at s33;obtain⟨a', cap', hu', hr⟩:=rowc_of_owns (n:=(out).length) (bs:=out) (by simpa using u2);rw[<-HE.out] at hr hu';obtain⟨N,hN⟩:∃N,K.length=N:=⟨_,rfl⟩;have HN:Hid (K.length=N):=hN;rw[hN] at hr hu';clear u2 s2 a2 hN;subst hu';go_wp2;go_ret
  first | exact⟨a', ⟨cap', by rw[HN.out];rfl⟩,by rw[HN.out];exact hr,bQ⟩ | exact⟨a', cap', by rw[HN.out];rfl,by rw[HN.out];exact hr,bQ⟩
  ):p:=h
theorem fkids_in (a:Option Addr)(len cap:Nat)(l:List Tok)(n:Nat)(w:World)(hl:Toks w a len l)(hsz:len<=4398046511104)(hn:n<len)(hk1:kindAt l n=1) :
  Calls Tryz.prog 42 #[.slice a len cap,.int .i64 (n:Int)] w fun e w' => ∃a' cap', e=.returned (.slice a' (kids l n).length cap')/\RowC .i64 w' a' (kids l n).length cap' (kids l n)/\Below w.heap.size w w' := by
 obtain⟨i0,hi,hz0,hz1,hz2⟩:=info_parts info3
 have hL:=hl.1
 have HG0:Hid (Gathers l n n [] (kids l n)):=.inl ⟨rfl,rfl,by unfold kids;rw[if_neg (by rw[Int.toNat_natCast];omega),show ((n:Int)+1).toNat=n+1 from by omega]⟩
 have HS0:Hid (Since l n n []):=.inl ⟨rfl,rfl⟩
 have HN0:Hid (Stk (w.alloc (.cells zeros 111)) w.heap.size w.heap.size (.slice none 0 0) []):=stk_new w
 have HB0:Hid (∀o,Below w.heap.size w (w.alloc o)):=fun o=>(zzd _ w).alloc (zzb _) o
 have HO:=fisopen_calls a len cap l n w hl
 rw[show decide (0<=(n:Int)/\(n:Int)<len/\kindAt l (n:Int).toNat=1)=true from by rw[Int.toNat_natCast];exact decide_eq_true ⟨oo,oo,hk1⟩] at HO
 have HK1:Hid (kindAt l n=1):=hk1
 have e1:((n:Int) == -1)=false:=by rw[beq_eq_false_iff_ne];omega
 clear hk1
 generalize kids l n=K at *
 go_enter Tryz.func42,Tryz.ntmps42
 go_wp2_with fail
 refine HO.mono ?_
 rintro e W ⟨rfl,hWw⟩
 rw[hWw]
 clear HO hWw
 go_wp2
 go_loopw [5,7] (fun u u7 w' => ∃(k:Nat) (v:Value) (R out:List Int),k<=len/\n<=k/\u7=.int .i64 (k:Int)/\R.length<=k/\out.length<=k/\Stk w' w.heap.size w.heap.size v R/\w'.ownsRow w.heap.size 3 1 u out.length (out.map (Value.int .i64))/\Apart u v/\Since l n k R/\Gathers l (n) k out K/\Below w.heap.size w w') (fun _ u7 _=>len - (intOf u7).toNat)
 case atStart=>exact⟨n,_,[],[],oo,oo,by simp,by simp,by simp,HN0.out,World.ownsRow_nil _ _ _ _,fun _ h=>by simp[Value.ownBlock] at h,HS0.out,HG0.out,HB0.out _⟩
 case round=>
  obtain⟨k,v,R,out,hk,hik,rfl,hR,hO,hS,hu,hA,hSi,hG,hB⟩:=hrel;clear HS0 HG0 HN0 HB0
  by_cases hlt:k<len
  ·obtain⟨b,o,x,rfl,hbl,hx,hc⟩:=hl.token hlt
   obtain⟨c0,c1,c2,c3⟩:=hc wr hB;have hst:=kids_step hSi hik oo hx HK1.out hG;have HL:=turn_length_le x k R
   have HOL:Hid ((kept (n) x k R out).length<=k+1):=by
    show (kept (n) x k R out).length<=k+1
    unfold kept
    split<;>first | omega | (simp;omega)
   (have HTop:Hid (∀o,Calls Tryz.prog 78 #[.pointer (some ⟨w.heap.size,0,none⟩)] (wr.alloc o) fun e w' => e=.returned (.int .i64 (R.getLast?.getD (-1)))/\∃q,w' = (wr.alloc o).drewN q):=fun o=>ftop_calls _ _ _ _ _ (hS.alloc o) oo);have HPart:=fun W=>fispart_calls x W
   have HPass:Hid (∀W u (n:Nat) (xs:List Value),Stk W w.heap.size w.heap.size v R->W.ownsRow w.heap.size 3 1 u n xs->Apart u v->w.heap.size<=W.heap.size->Calls Tryz.prog 69 #[.pointer (some ⟨w.heap.size,0,none⟩),.int .i64 (k:Int),tokV x] W fun e w' => e=.returned (.tuple #[])/\∃v', Stk w' w.heap.size w.heap.size v' (turn x k R)/\w'.ownsRow w.heap.size 3 1 u n xs/\Apart u v' /\ Below w.heap.size W w'):=by
    exact k49
   have HSz:=hB.size;(have HTu:Hid (∀j,u5.ownBlock=some j->j<wr.heap.size):=fun j hj=>(own_base hu j hj).2.1);rw[part_kept] at hst HOL;clear hc hl hx hSi hG;generalize turn x k R=R' at *;generalize hy:R.getLast?.getD (-1)=y at *;generalize part x=pq at *;obtain⟨xk,xt,xn,xm⟩:=x;simp only[tokV] at *
   by_cases hyi:y=n
   ·subst hyi
    cases pq
    ·rw[if_neg (fun h=>by simp at h)] at hst HOL
     rcases hst with ⟨rfl,hE⟩ | ⟨h1,g1,g2⟩
     ·have HE:Hid (K=out):=hE
      clear hE;(go_wp2_with fail);refine(HTop.out _).mono ?_;rintro e W0 ⟨rfl,q,rfl⟩;(go_wp2_with fail);refine(HPart _).mono ?_;rintro e W1 ⟨rfl,hB1⟩;obtain⟨t0,t1,t2,t3,hB2⟩:=tok_kept (below_of_drewN hB1);have sP:=hS.below hB2;have uP:=own_below hu hB2 HSz;have aP:=hA;have bP:=hB.trans (hB2.mono HSz);have HZ1:=hB2.size;clear hB2 hB1 HPart HTop;exact k25
     ·have HE1:Hid (Since l n (k+1) R'):=g1
      have HE2:Hid (Gathers l n (k+1) (out) K):=g2;(have ne:((R'.length:Int)==0)=false:=by simpa using h1);clear h1 g1 g2;exact k22
    ·rw[if_pos ⟨rfl,rfl⟩] at hst HOL
     rcases hst with ⟨rfl,hE⟩ | ⟨h1,g1,g2⟩
     ·have HE:Hid (K=out++[(k:Int)]):=hE
      clear hE;(go_wp2_with fail);refine(HTop.out _).mono ?_;rintro e W0 ⟨rfl,q,rfl⟩;(go_wp2_with fail);refine(HPart _).mono ?_;rintro e W1 ⟨rfl,hB1⟩;obtain⟨t0,t1,t2,t3,hB2⟩:=tok_kept (below_of_drewN hB1);have sP:=hS.below hB2;have uP:=own_below hu hB2 HSz;have aP:=hA;have bP:=hB.trans (hB2.mono HSz);have HZ1:=hB2.size
      have HT1:wr.heap.size<W1.heap.size:=by
       have:=hB1.size
       simp at this;omega
      clear hB2 hB1 HPart HTop hS hu hA;(go_wp2_with (at_builtin;refine wpList_append_own_at _ rfl _ _ 61 rfl w.heap.size 3 i0 (.int .i64 0) 1 8 Tryz.underlying61 hi hz0 hz1 hz2 rfl (by decide) _ _ _ rfl (uP.alloc _) ⟨W1.heap.size,0,none⟩ 1 1 [.int .i64 (k:Int)] rfl rfl (cell_one_new _ _ _) (by simp[Value.oneCell']) (by unfold maxLen;omega) oo (by simp;omega) ?_;intro v2 w2 hown2 hgrow hnil2 hat;obtain⟨sP2,aP2,hk2,bP2⟩:=kids_append sP uP aP hgrow hat;have hT:=hk2 wr.heap.size HT1 (fun e=>Nat.lt_irrefl _ (HTu.out _ e));have r0:w2.cell? ⟨wr.heap.size,0,none⟩=some (.int .i64 xk):=(zzi (a:=⟨wr.heap.size,0,none⟩) hT).trans t0;have r1:w2.cell? ⟨wr.heap.size,1,none⟩=some (.int .i64 xt):=(zzi (a:=⟨wr.heap.size,1,none⟩) hT).trans t1;have r2:w2.cell? ⟨wr.heap.size,2,none⟩=some (.int .i64 xn):=(zzi (a:=⟨wr.heap.size,2,none⟩) hT).trans t2;have r3:w2.cell? ⟨wr.heap.size,3,none⟩=some (.int .i64 xm):=(zzi (a:=⟨wr.heap.size,3,none⟩) hT).trans t3;have bP3:=bP.trans bP2;clear sP uP aP bP hk2 bP2 hT t0 t1 t2 t3 hgrow hat hnil2));refine(HPass.out _ _ _ _ sP2 hown2 aP2 bP3.size).mono ?_;rintro e W2 ⟨rfl,v', s2,u2,a2,b2⟩;have bQ:=bP3.trans b2;clear sP2 hown2 aP2 bP3 b2 HPass;obtain⟨-,s33,-⟩:=s2.cells;simp only[List.length_nil] at s33;obtain⟨a', cap', hu', hr⟩:=rowc_of_owns (n:=(out++[(k:Int)]).length) (bs:=out++[(k:Int)]) (by simpa using u2);rw[<-HE.out] at hr hu';obtain⟨N,hN⟩:∃N,K.length=N:=⟨_,rfl⟩;have HN:Hid (K.length=N):=hN;rw[hN] at hr hu';clear u2 s2 a2 hN;subst hu';go_wp2;go_ret
      first | exact⟨a', ⟨cap', by rw[HN.out];rfl⟩,by rw[HN.out];exact hr,bQ⟩ | exact⟨a', cap', by rw[HN.out];rfl,by rw[HN.out];exact hr,bQ⟩
     ·have HE1:Hid (Since l n (k+1) R'):=g1
      have HE2:Hid (Gathers l n (k+1) (out++[(k:Int)]) K):=g2;(have ne:((R'.length:Int)==0)=false:=by simpa using h1);clear h1 g1 g2;exact k05
   ·have ey:(y==n)=false:=by simpa using hyi
    rw[if_neg (fun h=>hyi h.1)] at hst HOL;rcases hst with ⟨rfl,hE⟩ | ⟨h1,g1,g2⟩
    ·have HE:Hid (K=out):=hE
     clear hE;(go_wp2_with fail);refine(HTop.out _).mono ?_;rintro e W0 ⟨rfl,q,rfl⟩;have bT:Below (wr.alloc (.cells #[.int .i64 xk,.int .i64 xt,.int .i64 xn,.int .i64 xm] 58)).heap.size (wr.alloc (.cells #[.int .i64 xk,.int .i64 xt,.int .i64 xn,.int .i64 xm] 58)) ((wr.alloc (.cells #[.int .i64 xk,.int .i64 xt,.int .i64 xn,.int .i64 xm] 58)).drewN q):=below_drewN (zzd _ _) _;obtain⟨t0,t1,t2,t3,hB2⟩:=tok_kept bT;have sP:=hS.below hB2;have uP:=own_below hu hB2 HSz;have aP:=hA;have bP:=hB.trans (hB2.mono HSz);clear hB2 bT HPart HTop;exact k25
    ·have HE1:Hid (Since l n (k+1) R'):=g1
     have HE2:Hid (Gathers l n (k+1) (out) K):=g2;(have ne:((R'.length:Int)==0)=false:=by simpa using h1);clear h1 g1 g2;exact k14
  ·obtain rfl:k=len:=by omega
   have HE:Hid (K=out):=kids_none (l:=l) (i:=n) oo (by rw[hL];exact hG);exact k38
theorem fkids_calls (a:Option Addr)(len cap:Nat)(l:List Tok)(i:Int)(w:World)(hl:Toks w a len l)(hsz:len<=4398046511104) :
  Calls Tryz.prog 42 #[.slice a len cap,.int .i64 i] w fun e w' => ∃a' cap', e=.returned (.slice a' (kids l i).length cap')/\RowC .i64 w' a' (kids l i).length cap' (kids l i)/\Below w.heap.size w w' := by
 by_cases hm:i = -1
 ·subst hm
  exact fkids_out a len cap l w hl hsz
 by_cases hO:0<=i/\i<len/\kindAt l i.toNat=1
 ·obtain⟨n,rfl⟩:=Int.eq_ofNat_of_zero_le hO.1
  exact fkids_in a len cap l n w hl hsz oo (by have:=hO.2.2;rwa [Int.toNat_natCast] at this)
 have HO:=fisopen_calls a len cap l i w hl
 rw[decide_eq_false hO] at HO
 rw[show kids l i=[] from by unfold kids;rw[if_pos (by rw[hl.1];omega)]]
 have e1:(i == -1)=false:=by simpa using hm
 clear hl
 go_enter Tryz.func42,Tryz.ntmps42
 go_wp2_with fail
 refine HO.mono ?_
 rintro e W ⟨rfl,rfl⟩
 go_wp2
 go_ret
 first | exact⟨none,⟨0,rfl⟩,⟨⟨rfl,.inl rfl⟩,zzb _,by decide⟩,zzd _ _⟩ | exact⟨none,0,rfl,⟨⟨rfl,.inl rfl⟩,zzb _,by decide⟩,zzd _ _⟩
def specOf (ks:List KindD)(i:Nat):SpecD:=(ks[i]?.map (·.1)).getD zeroS
theorem specOf_some {ks:List KindD}{i:Nat}{x:KindD}(h:ks[i]? = some x):specOf ks i=x.1:=by unfold specOf;rw[h];rfl
def fitsB (ks:List KindD)(s:SpecD)(x:Tok):Bool:=if x.k=0 then takesR s x else if 1<=x.t/\x.t<ks.length then mayBeB (specOf ks x.t.toNat) x else false
theorem sfits_calls {B g c ng nc:Nat}{ks:List KindD}{gs:List Grp}{ts:List (DataW Unit)}(w:World)(h:SchAt w B g c ng nc ks gs ts)(h0:0<ks.length)(x:Tok)(s:SpecD)(o:Nat)(hs:SpecAt w g o s):Calls Tryz.prog 105 #[.pointer (some ⟨B,0,none⟩),tokV x,.pointer (some ⟨g,o,none⟩)] w fun e w' => e=.returned (.bool (fitsB ks s x))/\Below w.heap.size w w' := by
 obtain⟨V,hV⟩:∃V,V=w.alloc (.cells #[.int .i64 x.k,.int .i64 x.t,.int .i64 x.n,.int .i64 x.m] 58):=⟨_,rfl⟩
 have hBV:Below w.heap.size w V:=by rw[hV];exact(zzd _ w).alloc (zzb _) _
 have m0:V.heap[w.heap.size]? = some (.cells #[.int .i64 x.k,.int .i64 x.t,.int .i64 x.n,.int .i64 x.m] 58 (0,0)):=by rw[hV];exact World.alloc_heap_new w _
 have hc:=fun j=>cell_of_row V w.heap.size j _ _ _ m0
 have k0:V.cell? ⟨w.heap.size,0,none⟩=some (.int .i64 x.k):=hc 0
 have k1:V.cell? ⟨w.heap.size,1,none⟩=some (.int .i64 x.t):=hc 1
 have k2:V.cell? ⟨w.heap.size,2,none⟩=some (.int .i64 x.n):=hc 2
 have k3:V.cell? ⟨w.heap.size,3,none⟩=some (.int .i64 x.m):=hc 3
 have HTR:=takesrune_calls g o s x V (hs.same (hBV.block g h.glt)) (zzl h.glt hBV.size)
 have HTO:=typeof_calls V (h.below hBV) h0 x.t
 have HMB:Hid (1<=x.t/\x.t<ks.length->Calls Tryz.prog 133 #[.pointer (some ⟨g,x.t.toNat * 10,none⟩),tokV x] V fun e w' => e=.returned (.bool (mayBeB (specOf ks x.t.toNat) x))/\Below V.heap.size V w'):=fun hx=>by
  obtain⟨y,hy⟩:∃y,ks[x.t.toNat]? = some y:=⟨_,zze oo⟩;rw[specOf_some hy];exact maybe_calls g _ y.1 x V ((h.below hBV).kinds _ y hy).1 (h.below hBV).glt
 have HB:Hid (Below w.heap.size w V):=hBV
 have HV:Hid (w.alloc (.cells #[.int .i64 x.k,.int .i64 x.t,.int .i64 x.n,.int .i64 x.m] 58)=V):=hV.symm
 unfold fitsB
 unfold tokV at *
 clear h hs m0 hc hV hBV
 by_cases d0:x.k=0
 ·rw[if_pos d0]
  (have hd0:(x.k==0)=true:=by simpa using d0);generalize takesR s x=R at *;clear HTO HMB d0;go_enter Tryz.func105,Tryz.ntmps105;(go_wp2_with fail);rw[HV.out];refine HTR.mono ?_;rintro e W ⟨rfl,hB1⟩;have HB1:Hid (Below w.heap.size w W):=HB.out.trans (hB1.mono HB.out.size);clear hB1 HTR;go_wp2;go_ret;exact⟨rfl,HB1.out⟩
 ·rw[if_neg d0]
  have hd0:(x.k==0)=false:=by simpa using d0
  clear HTR d0
  by_cases d1:1<=x.t/\x.t<ks.length
  ·rw[if_pos d1] at HTO ⊢
   have HM:=HMB.out d1;generalize mayBeB (specOf ks x.t.toNat) x=R at *;clear HMB d1;go_enter Tryz.func105,Tryz.ntmps105;(go_wp2_with fail);rw[HV.out];refine HTO.mono ?_;rintro e W ⟨rfl,rfl⟩;(go_wp2_with fail);refine HM.mono ?_;rintro e W2 ⟨rfl,hB1⟩;have HB1:Hid (Below w.heap.size w W2):=HB.out.trans (hB1.mono HB.out.size);clear hB1 HM;go_wp2;go_ret;exact⟨rfl,HB1.out⟩
  ·rw[if_neg d1] at HTO ⊢
   clear HMB d1;go_enter Tryz.func105,Tryz.ntmps105;(go_wp2_with fail);rw[HV.out];refine HTO.mono ?_;rintro e W ⟨rfl,rfl⟩;go_wp2;go_ret;exact⟨rfl,HB.out⟩
def typeAt (l:List Tok)(p:Int):Int:=((l[p.toNat]?).map (·.t)).getD 0
def wordD (l:List Tok)(ps:List Int):List Int:=ps.map (typeAt l)
theorem wordof_calls (a:Option Addr)(len cap:Nat)(l:List Tok)(ka:Option Addr)(kl kc:Nat)(ps:List Int)(w:World)(hl:Toks w a len l)(hk:Ints w ka kl ps)(hsz:len<=2048)(hkl:kl<=5000)(hps:∀p∈ps,0<=p/\p<len) :
  Calls Tryz.prog 45 #[.slice a len cap,.slice ka kl kc] w fun e w' => ∃wa wc,e=.returned (.slice wa kl wc)/\w'.ownsRow w.heap.size 3 1 (.slice wa kl wc) kl (intsV (wordD l ps))/\Below w.heap.size w w' := by
 have HL:Hid (∀(X:World) (p:Nat),Below w.heap.size w X->p<len->∃b o x,a=some ⟨b,o,none⟩/\l[p]? = some x/\X.cell? ⟨b,o+p * 4+1,none⟩=some (.int .i64 x.t)):=fun X p hX hp=>by
  obtain⟨b,o,x,h1,_,h3,h4⟩:=hl.token hp;exact⟨b,o,x,h1,h3,(h4 X hX).2.1⟩
 have HK:Hid (∀(X:World) (i:Nat),Below w.heap.size w X->i<kl->∃b o p,ka=some ⟨b,o,none⟩/\ps[i]? = some p/\X.cell? ⟨b,o+i,none⟩=some (.int .i64 p)/\0<=p/\p<len):=fun X i hX hi=>by
  obtain⟨b,o,p,h1,h2,h3⟩:=hk.at hi;exact⟨b,o,p,h1,h2,h3 X hX,hps p (zzj h2)⟩
 have HPL:Hid (ps.length=kl):=hk.1
 have hli:(len:Int)<=2048:=by omega
 have hki:(kl:Int)<=5000:=by omega
 have HO0:Hid (w.ownsRow w.heap.size 3 1 (.slice none 0 0) 0 (intsV [])):=World.ownsRow_nil ..
 clear hl hk hps
 go_enter Tryz.func45,Tryz.ntmps45
 go_wp2
 go_loopg [5,10] (kl+1) (fun gk u v wr=>∃(i:Nat) (ua:Option Addr) (uc:Nat),i<=kl/\kl<i+gk/\u=.slice ua i uc/\v=.int .i64 (i:Int)/\wr.ownsRow w.heap.size 3 1 (.slice ua i uc) i (intsV (wordD l (ps.take i)))/\Below w.heap.size w wr)
 case atStart=>exact⟨0,none,0,zzn _,oo,rfl,rfl,HO0.out,zzd _ _⟩
 case round=>
  obtain⟨i,ua,uc,hi,hgk,rfl,rfl,hown,hB⟩:=hrel;clear HO0
  by_cases hlt:i<kl
  ·obtain⟨b,o,p,rfl,hp,c0,hp0,hp1⟩:=HK.out wr i hB hlt
   obtain⟨q,rfl⟩:∃q:Nat,p=(q:Int):=⟨p.toNat,oo⟩;obtain⟨b', o', x,rfl,hx,c1⟩:=HL.out wr q hB oo;(have hii:(i:Int)<(kl:Int):=by omega);(have hi0:(0:Int)<=(i:Int):=by omega);(have hd:decide ((i:Int)<(kl:Int))=true:=by simpa using hii);have hown2:=World.ownsRow.alloc hown (.cells #[.int .i64 x.t] 3);have hints:=Ints.one (World.alloc_heap_new wr (.cells #[.int .i64 x.t] 3));have HW:Hid ((wr.alloc (.cells #[.int .i64 x.t] 3)).ownsRow w.heap.size 3 1 (.slice ua i uc) i (intsV (wordD l (ps.take i)))/\Ints (wr.alloc (.cells #[.int .i64 x.t] 3)) (some ⟨wr.heap.size,0,none⟩) 1 [x.t]/\Below w.heap.size w (wr.alloc (.cells #[.int .i64 x.t] 3))):=⟨hown2,hints,hB.alloc hB.size _⟩;have hs1:i+1<=1000000000:=by omega
   have HT:Hid (wordD l (ps.take (i+1))=wordD l (ps.take i)++[x.t]):=by
    show wordD l (ps.take (i+1))=wordD l (ps.take i)++[x.t]
    unfold wordD;rw[List.take_add_one,hp,List.map_append]
    congr 1
    show [typeAt l (q:Int)]=[x.t]
    unfold typeAt;rw[Int.toNat_natCast,hx]
    rfl
   clear hown hB hown2 hints HK HL hp hx
   go_wp2_with (first
    | (at_builtin;refine wpList_append_ints rfl (.tmp 14) (.tmp 20) rfl w.heap.size _ i _ rfl HW.out.1 _ 1 1 [x.t] rfl (fun e=>by cases e) HW.out.2.1 hs1 HW.out.2.2.size ?_;intro v1 W5 hown3 hB3;obtain⟨va,vc,rfl⟩:=shape_owns hown3;have HN:Hid (W5.ownsRow w.heap.size 3 1 (.slice va (i+1) vc) (i+1) (intsV (wordD l (ps.take (i+1))))/\Below w.heap.size w W5):=⟨by rw[HT.out];exact hown3,HW.out.2.2.trans hB3⟩;clear hown3 hB3 HW HT)
    | fail)
   go_roundg (kl - i)
   case measure=>omega
   case rel=>exact⟨i+1,va,vc,oo,oo,rfl,by first | rfl | go_num,HN.out⟩
  ·obtain rfl:i=kl:=by omega
   have hd:decide ((i:Int)<(i:Int))=false:=by simp
   have HE:Hid (wr.ownsRow w.heap.size 3 1 (.slice ua i uc) i (intsV (wordD l ps))/\Below w.heap.size w wr):=by
    rw[zzm (by have:=HPL.out;omega)] at hown;exact⟨hown,hB⟩
   clear hown hB HK HL;go_wp2;go_ret;exact⟨ua,uc,rfl,HE.out⟩
end Go.Proofs.YtjkebndkeamijaaGreatDoor
