/-
  PROVED HERE: what the texts DPRSpec, DPRChkP, DPRRule, DPRToken, DPRWord, DPROpen, DPRAround say.
-/
import Derived.Test.YtjkebndkeamijaaGreatDoorCP28
import Derived.Test.YtjkebndkeamijaaGreatDoorCP35
set_option maxRecDepth 100000
set_option maxHeartbeats 2000000
namespace Go.Proofs.YtjkebndkeamijaaGreatDoor
open Go.RowKit
def specL (l:List SpecD)(t:Int):SpecD:=if 1<=t/\t<=l.length then (l[(t - 1).toNat]?).getD zeroS else zeroS
theorem k20{p:Prop}(h:p:=by
  rw[if_neg oo,show decide (1<=t/\t<=(len:Int))=false by simp;omega];unfold specV zeroS;dsimp only at *;have HV:=Hid.mk_ hV;clear h1 h3 hm hl3 hll hV hBV;go_enter Tryz.func19,Tryz.ntmps19;(go_wp2_with (first | (rw[<-HV.out];refine wpList_store_row rfl 34 _ _ rfl w.heap.size #[.string ⟨#[]⟩,.string ⟨#[]⟩,.bool false,.int .i64 0,.int .i64 0,.int .i64 0,.bool false] rfl rfl 34 _ HZ.out sizeSpec rfl (ones7 _ _ _ _ _ _ _) ?_) | fail));refine bodyPost_ret (results_row_tmp rfl _ _ w.heap.size 34 #[.string ⟨#[]⟩,.string ⟨#[]⟩,.bool false,.int .i64 0,.int .i64 0,.int .i64 0,.bool false] (0,0) _ rfl (setRow_heap _ _ _ _ _ _ HZ.out) Tryz.underlying34 rfl sizeSpec) rfl ?_;exact⟨rfl,HF.out _⟩
  ):p:=h
theorem rspec_calls {B:Nat}{whole:ByteArray}{a:Option Addr}{len cap:Nat}{l:List SpecD}{gs:List Grp}(w:World)(h:RSch w B whole a len cap l gs)(t:Int) :
  Calls Tryz.prog 19 #[.pointer (some ⟨B,0,none⟩),.int .i64 t] w fun e w' => e=.returned (.tuple #[specV (specL l t),.bool (decide (1<=t/\t<=(len:Int)))])/\Below w.heap.size w w' := by
 obtain⟨V,hV⟩:∃V,V=w.alloc (.cells #[.string ⟨#[]⟩,.string ⟨#[]⟩,.bool false,.int .i64 0,.int .i64 0,.int .i64 0,.bool false] 34):=⟨_,rfl⟩
 have hBV:Below w.heap.size w V:=by rw[hV];exact(zzd _ w).alloc (zzb _) _
 have HZ:Hid (V.heap[w.heap.size]? = some (.cells #[.string ⟨#[]⟩,.string ⟨#[]⟩,.bool false,.int .i64 0,.int .i64 0,.int .i64 0,.bool false] 34 (0,0))):=by rw[hV];exact World.alloc_heap_new w _
 have HF:Hid (∀cs,Below w.heap.size w (V.setRow w.heap.size cs)):=fun cs=>below_setRow hBV (zzb _) cs
 obtain⟨tr,ea,ec,ng,nc,h1,_,h3,_,_,_,h15⟩:=h
 have hm:=(hBV.block _ (zza.1 h1).1).trans h1
 have cL:V.cell? ⟨B,3,none⟩=some (.slice a len cap):=cell_of_row V B 3 _ _ _ hm
 have hl3:=h3.below hBV
 have hll:=h3.1
 have hli:(len:Int)<=15:=by omega
 unfold specL
 rw[hll]
 rw[hV] at cL
 by_cases p0:t<1
 ·have hd:decide (t<1)=true:=by simpa using p0
  exact k20
 have hd0:decide (t<1)=false:=by simpa using p0
 by_cases p1:(len:Int)<t
 ·have hd:decide ((len:Int)<t)=true:=by simpa using p1
  exact k20
 have hd1:decide ((len:Int)<t)=false:=by simpa using p1
 obtain⟨n,rfl⟩:∃n:Nat,t=(n:Int)+1:=⟨(t - 1).toNat,oo⟩
 rw[if_pos oo,show decide (1<=(n:Int)+1/\(n:Int)+1<=(len:Int))=true by simp;omega,show ((n:Int)+1 - 1).toNat=n by omega]
 obtain⟨b,o,x,rfl,_,hx,hsp⟩:=hl3.at (i:=n) oo
 obtain⟨s0,s1,s2,s3,s4,s5,s6⟩:=hsp V (zzd _ _)
 rw[hx]
 obtain⟨xn,xe,xf,xm,xl,xk,xb⟩:=x
 have hn0:(0:Int)<=(n:Int):=by omega
 have hnl:(n:Int)<(len:Int):=by omega
 have hns:(n:Int)+1 - 1=(n:Int):=by omega
 rw[hV] at s0 s1 s2 s3 s4 s5 s6
 unfold specV
 dsimp only[Option.getD_some] at *
 have HV:=Hid.mk_ hV
 clear h1 h3 hm hl3 hll hV hBV hx hsp
 go_enter Tryz.func19,Tryz.ntmps19
 go_wp2_with (first | (rw[<-HV.out];refine wpList_store_row rfl 34 _ _ rfl w.heap.size #[.string xn,.string xe,.bool xf,.int .i64 xm,.int .i64 xl,.int .i64 xk,.bool xb] rfl rfl 34 _ HZ.out sizeSpec rfl (ones7 _ _ _ _ _ _ _) ?_) | fail)
 exact k51
theorem ks_len {ks:List KindD}{sp:List SpecD}(h:ks.map (·.1)=zeroS::sp):ks.length=sp.length+1:=by
 have:=congrArg List.length h
 rwa [List.length_map,List.length_cons] at this
theorem ks_spec {ks:List KindD}{sp:List SpecD}(h:ks.map (·.1)=zeroS::sp){n:Nat}{x:SpecD}(hx:(zeroS::sp)[n]? = some x):specOf ks n=x:=by
 rw[<-h,List.getElem?_map] at hx
 cases hk:ks[n]? with
 | none=>rw[hk] at hx;cases hx
 | some y=>
  rw[hk] at hx;(injection hx with hx);rw[specOf_some hk];exact hx
theorem ks_specL {ks:List KindD}{sp:List SpecD}(h:ks.map (·.1)=zeroS::sp){t:Int}(h1:1<=t)(h2:t<=sp.length):specOf ks t.toNat=specL sp t:=by
 obtain⟨n,rfl⟩:∃n:Nat,t=(n:Int)+1:=⟨(t - 1).toNat,oo⟩
 obtain⟨x,hx⟩:∃x,sp[n]? = some x:=⟨_,zze oo⟩
 unfold specL
 rw[if_pos ⟨h1,h2⟩,show ((n:Int)+1 - 1).toNat=n by omega,hx,show ((n:Int)+1).toNat=n+1 by omega]
 exact ks_spec h (by rw[List.getElem?_cons_succ];exact hx)
theorem tree_type {whole:ByteArray}{sp:List SpecD}{l:List Tok}{i:Int}(hi:i ≠ -1){n:Nat}(ht:typeAt l i=(n:Int)+1){x:SpecD}(hx:sp[n]? = some x):treeAt (treesOf whole sp) l i=outTree x.expr:=by
 unfold treeAt treesOf
 rw[if_neg hi,ht,show ((n:Int)+1).toNat=n+1 by omega,List.getD_eq_getElem?_getD,List.map_cons,List.getElem?_cons_succ,List.getElem?_map,List.getElem?_map,hx]
 rfl
theorem firstE_all {G:List Grp}:∀{ss:List ByteArray},firstE ss G=0->∀s∈ss,readE s G=0:=by
 intro ss
 induction ss with
 | nil=>intro _ s hs;cases hs
 | cons q r ih=>
  intro h0 s hs;rw[firstE] at h0
  by_cases hq:readE q G=0
  ·rw[if_neg (by rw[hq];simp)] at h0
   rcases List.mem_cons.1 hs with rfl | hs
   ·exact hq
   ·exact ih h0 s hs
  ·rw[if_pos hq] at h0
   exact absurd h0 hq
theorem one_type {ks:List KindD}{gs:List Grp}{ts:List (DataW Unit)}{l:List Tok}{j:Nat}(h:OneD ks gs ts l j)(hk:kindAt l j=1):1<=typeAt l (j:Int)/\typeAt l (j:Int)<ks.length:=by
 obtain⟨x,hx⟩:∃x,l[j]? = some x:=⟨_,zze (kind_lt hk)⟩
 have hxk:x.k=1:=by rw[<-kindAt_some hx];exact hk
 have hxt:typeAt l (j:Int)=x.t:=by unfold typeAt;rw[Int.toNat_natCast,hx];rfl
 have hf:=(h.2 oo).1
 rw[hx,Option.getD_some] at hf
 unfold fitsB at hf
 rw[if_neg oo] at hf
 rw[hxt]
 by_cases hr:1<=x.t/\x.t<ks.length
 ·exact hr
 ·rw[if_neg hr] at hf;cases hf
def KnownP (sp:List SpecD)(l:List Tok)(i:Int):Prop:=i = -1\/∃m n:Nat,i=(m:Int)/\m<l.length/\typeAt l i=(n:Int)+1/\n<sp.length
theorem known_of {ks:List KindD}{sp:List SpecD}(hks:ks.map (·.1)=zeroS::sp){gs:List Grp}{ts:List (DataW Unit)}{l:List Tok}{j:Nat}(hj:j<=l.length)(hall:∀q,q<j->OneD ks gs ts l q):KnownP sp l (around l (j:Int)):=by
 have hge:=around_ge l j hj
 rcases around_place l j hj with h | ⟨m,h,hm⟩
 ·exact .inl h
 ·rw[h] at hge ⊢
  have ht:=one_type (hall m oo) hm;have hl:=ks_len hks;exact .inr ⟨m,(typeAt l (m:Int) - 1).toNat,rfl,kind_lt hm,oo,oo⟩
theorem right_tree {whole:ByteArray}{sp:List SpecD}{G:List Grp}(h6:firstE (whole::sp.map (·.expr)) G=0){l:List Tok}{i:Int}(hp:KnownP sp l i):chk 200 (treeAt (treesOf whole sp) l i) G=0:=by
 rcases hp with rfl | ⟨m,n,rfl,hm,ht,hn⟩
 ·exact readE_zero (firstE_all h6 whole (zzg ..))
 ·obtain⟨x,hx⟩:∃x,sp[n]? = some x:=⟨_,zze hn⟩
  rw[tree_type oo ht hx];exact readE_zero (firstE_all h6 x.expr (zzk _ (List.mem_map.2 ⟨x,zzj hx,rfl⟩)))
theorem right_to {ks:List KindD}{sp:List SpecD}(hks:ks.map (·.1)=zeroS::sp){whole:ByteArray}{G:List Grp}(h6:firstE (whole::sp.map (·.expr)) G=0){l:List Tok}{n:Nat}(hn:n<=l.length)(hall:∀q,q<n->OneD ks G (treesOf whole sp) l q):RightTo G (treesOf whole sp) l n:=by
 refine⟨right_tree h6 (.inl rfl),fun q hq hk=>right_tree h6 (.inr ?_)⟩
 have ht:=one_type (hall q hq) hk
 have hl:=ks_len hks
 exact⟨q,(typeAt l (q:Int) - 1).toNat,rfl,oo,oo,oo⟩
theorem spec_known {ks:List KindD}{sp:List SpecD}(hks:ks.map (·.1)=zeroS::sp){l:List Tok}{i:Int}(hi:i ≠ -1)(hp:KnownP sp l i):specAt ks l i=specL sp (typeAt l i):=by
 rcases hp with h | ⟨m,n,rfl,hm,ht,hn⟩
 ·exact absurd h hi
 ·unfold specAt
  rw[if_neg hi];exact ks_specL hks oo oo
theorem spec_whole {ks:List KindD}{sp:List SpecD}(hks:ks.map (·.1)=zeroS::sp)(l:List Tok):specAt ks l (-1)=zeroS:=ks_spec hks rfl
theorem tree_out {whole:ByteArray}{sp:List SpecD}{l:List Tok}{i:Int}(hp:KnownP sp l i):∃s,treeAt (treesOf whole sp) l i=outTree s:=by
 rcases hp with rfl | ⟨m,n,rfl,hm,ht,hn⟩
 ·exact⟨whole,rfl⟩
 ·obtain⟨x,hx⟩:∃x,sp[n]? = some x:=⟨_,zze hn⟩
  exact⟨x.expr,tree_type oo ht hx⟩
theorem long_full {gs:List Grp}{n:Nat}{t:DataW Unit}{zs:List Int}{i:Nat}(h:LongD gs n t zs i):i=zs.length↔PreD gs n t zs:=by
 obtain⟨h1,h2,h3⟩:=h
 constructor
 ·intro e
  rw[e,List.take_length] at h2;exact h2
 ·intro hp
  apply Classical.byContradiction;intro hne;refine h3 oo (pre_take (j:=zs.length) (by rw[List.take_length];exact hp) oo)
theorem specR_specL {ks:List KindD}{sp:List SpecD}(hks:ks.map (·.1)=zeroS::sp)(t:Int):specL sp t=specR ks t:=by
 have hl:=ks_len hks
 by_cases h:1<=t/\t<=sp.length
 ·unfold specR
  rw[if_pos oo,ks_specL hks h.1 h.2]
 ·unfold specR specL
  rw[if_neg h,if_neg oo]
theorem rspec_ks {B:Nat}{whole:ByteArray}{a:Option Addr}{len cap:Nat}{sp:List SpecD}{gs:List Grp}{ks:List KindD}(w:World)(h:RSch w B whole a len cap sp gs)(hks:ks.map (·.1)=zeroS::sp)(t:Int) :
  Calls Tryz.prog 19 #[.pointer (some ⟨B,0,none⟩),.int .i64 t] w fun e w' => e=.returned (.tuple #[specV (specR ks t),.bool (decide (1<=t/\t<ks.length))])/\Below w.heap.size w w' := by
 have hl:=ks_len hks
 have hsl:sp.length=len:=by obtain⟨_,_,_,_,_,_,_,h3,_⟩:=h;exact h3.1
 have:=rspec_calls w h t
 rw[specR_specL hks t,show decide (1<=t/\t<=(len:Int))=decide (1<=t/\t<(ks.length:Int)) from by simp only[decide_eq_decide];omega] at this
 exact this
theorem rule_calls {B:Nat}{whole:ByteArray}{a:Option Addr}{len cap:Nat}{sp:List SpecD}{gs:List Grp}(w:World)(h:RSch w B whole a len cap sp gs)(ta:Option Addr)(tl tc:Nat)(l:List Tok)(hl:Toks w ta tl l)(hsz:tl<=2048)(i:Int)(hp:KnownP sp l i) :
  ∃k s ra rl rc,Ex w 200 (treeAt (treesOf whole sp) l i) (.agg #[.int .i64 k,.string s,.slice ra rl rc])/\∀X,Below w.heap.size w X->Calls Tryz.prog 49 #[.pointer (some ⟨B,0,none⟩),.slice ta tl tc,.int .i64 i] X fun e X' => e=.returned (.agg #[.int .i64 k,.string s,.slice ra rl rc])/\Below X.heap.size X X' := by
 obtain⟨⟨k,s,ra,rl,rc⟩,ea,ec,ng,nc,h1,h2,h3,h4,h5,h6,h15⟩:=h
 have hBl:=(zza.1 h1).1
 rcases hp with rfl | ⟨m,n,rfl,hm,ht,hn⟩
 ·refine⟨k,s,ra,rl,rc,h2,fun X hX=>?_⟩
  obtain⟨V,hV⟩:∃V,V=X.alloc (.cells #[.int .i64 0,.string ⟨#[]⟩,.slice none 0 0] 69):=⟨_,rfl⟩;(have hBV:Below X.heap.size X V:=by rw[hV];exact(zzd _ X).alloc (zzb _) _);(have HZ:Hid (V.heap[X.heap.size]? = some (.cells #[.int .i64 0,.string ⟨#[]⟩,.slice none 0 0] 69 (0,0))):=by rw[hV];exact World.alloc_heap_new X _);(have HF:Hid (∀cs,Below X.heap.size X (V.setRow X.heap.size cs)):=fun cs=>below_setRow hBV (zzb _) cs);have hm:=((hX.trans (hBV.mono hX.size)).block _ hBl).trans h1;have c0:V.cell? ⟨B,0,none⟩=some (.int .i64 k):=cell_of_row V B 0 _ _ _ hm;have c1:V.cell? ⟨B,1,none⟩=some (.string s):=cell_of_row V B 1 _ _ _ hm;have c2:V.cell? ⟨B,2,none⟩=some (.slice ra rl rc):=cell_of_row V B 2 _ _ _ hm;rw[hV] at c0 c1 c2;have HV:=Hid.mk_ hV;clear h1 h2 h3 h4 h5 h6 h15 hm hV hBV hX hl hsz hBl;go_enter Tryz.func49,Tryz.ntmps49;(go_wp2_with (first | (rw[<-HV.out];refine wpList_store_row rfl 69 _ _ rfl X.heap.size #[.int .i64 k,.string s,.slice ra rl rc] rfl rfl 69 _ HZ.out sizeExpr rfl (ones3 _ _ _ _ _) ?_) | fail));refine bodyPost_ret (results_cell_row rfl _ _ X.heap.size 69 #[.int .i64 k,.string s,.slice ra rl rc] (0,0) _ rfl (setRow_heap _ _ _ _ _ _ HZ.out) Tryz.underlying69 rfl sizeExpr) rfl ?_;exact⟨rfl,HF.out _⟩
 ·obtain⟨x,hx⟩:∃x,sp[n]? = some x:=⟨_,zze hn⟩
  have hsl:=h3.1;obtain⟨eg,⟨rk,rn,ra,rl,rc⟩,rfl,hgl,d0,d1,d2,hex⟩:=h5 n x hx;rw[tree_type oo ht hx];refine⟨rk,rn,ra,rl,rc,hex,fun X hX=>?_⟩;obtain⟨b,o,y,rfl,hbl,hy,hc⟩:=hl.token (k:=m) (by rw[<-hl.1];exact hm)
  have hyt:y.t=(n:Int)+1:=by
   unfold typeAt at ht;rw[Int.toNat_natCast,hy] at ht;exact ht
  have HCE:Hid (∀Y,Below X.heap.size X Y->Y.cell? ⟨B,4,none⟩=some (.slice (some ⟨eg,0,none⟩) len ec)/\Y.cell? ⟨eg,n * 3,none⟩=some (.int .i64 rk)/\Y.cell? ⟨eg,n * 3+1,none⟩=some (.string rn)/\Y.cell? ⟨eg,n * 3+2,none⟩=some (.slice ra rl rc)/\Y.cell? ⟨b,o+m * 4+1,none⟩=some (.int .i64 ((n:Int)+1))):=fun Y hY=>by
   have hB:=hX.trans (hY.mono hX.size);(have hq:∀j,Y.cell? ⟨eg,j,none⟩=w.cell? ⟨eg,j,none⟩:=fun j=>zzi (hB.block eg hgl));have h2:=(hc Y hB).2.1;rw[hyt] at h2;exact⟨cell_of_row Y B 4 _ _ _ ((hB.block _ hBl).trans h1),by rw[hq];exact d0,by rw[hq];exact d1,by rw[hq];exact d2,h2⟩
  obtain⟨V,hV⟩:∃V,V=X.alloc (.cells #[.int .i64 0,.string ⟨#[]⟩,.slice none 0 0] 69):=⟨_,rfl⟩;(have hBV:Below X.heap.size X V:=by rw[hV];exact(zzd _ X).alloc (zzb _) _);have hVD:=hBV.drew;(have HZ:Hid (V.drew.heap[X.heap.size]? = some (.cells #[.int .i64 0,.string ⟨#[]⟩,.slice none 0 0] 69 (0,0))):=by rw[hV];exact World.alloc_heap_new X _);(have HF:Hid (∀cs,Below X.heap.size X (V.drew.setRow X.heap.size cs)):=fun cs=>below_setRow hVD (zzb _) cs);(have hml:(m:Int)<(tl:Int):=by have:=hl.1;omega);(have htl:(tl:Int)<=2048:=by omega);(have hm0:¬(m:Int)<0:=by omega);(have hn0:(0:Int)<=(n:Int):=by omega);(have hnl:(n:Int)<(len:Int):=by omega);(have hli:(len:Int)<=15:=by omega);(have hns:(n:Int)+1 - 1=(n:Int):=by omega);(have hwr:IntKind.i64.wrap (n:Int)=(n:Int):=by rw[IntKind.wrap_i64];omega);clear h1 h2 h3 h4 h5 h6 h15 hBV hX hl hsz hBl hex hx d0 d1 d2 hgl hc hy hyt ht hm hn hsl hbl;go_enter Tryz.func49,Tryz.ntmps49;(go_wp2_with fail);rw[<-hV];clear hV;refine wp_region_held_drew (S:=fun Y=>Below X.heap.size X Y) hmx hVD (fun hS=>?_);refine takeG 0 (some 13) hS ?_;refine takeG 1 (some 14) hS ?_;refine takeG 2 (some 15) hS ?_;refine takeG 3 (some 16) hS ?_ (hy:=by intro w hSw;obtain⟨q0,q1,q2,q3,q4⟩:=HCE.out _ hSw;go_simp;with_reducible rfl);refine takeG 4 (some 17) hS ?_;refine takeG 5 (some 18) hS ?_;refine takeG 6 (some 19) hS ?_;refine takeG 7 (some 20) hS ?_;refine takeG 8 (some 21) hS ?_ (hy:=by intro w hSw;obtain⟨q0,q1,q2,q3,q4⟩:=HCE.out _ hSw;go_simp;with_reducible rfl);refine takeG 9 (some 22) hS ?_;refine takeG 10 (some 23) hS ?_;refine takeG 11 (some 24) hS ?_ (hy:=by intro w hSw;obtain⟨q0,q1,q2,q3,q4⟩:=HCE.out _ hSw;go_simp;with_reducible rfl);refine callD 12 kr rfl (fun K hK=>?_);rw[if_pos (by rfl)];refine wp_store_row 69 _ _ rfl X.heap.size #[.int .i64 rk,.string rn,.slice ra rl rc] rfl rfl 69 _ HZ.out sizeExpr rfl (ones3 _ _ _ _ _) ?_;refine hK.out _ _ (HF.out _) (fun _=>?_);clear hK K;refine wpAnyH_done kr ?_ _;(go_wp2_with fail);refine bodyPost_ret (results_cell_row rfl _ _ X.heap.size 69 #[.int .i64 rk,.string rn,.slice ra rl rc] (0,0) _ rfl (setRow_heap _ _ _ _ _ _ HZ.out) Tryz.underlying69 rfl sizeExpr) rfl ?_;exact⟨rfl,HF.out _⟩
theorem withM_right {s:Int}(h:0<=s/\s<=4)(t:Int):withM s t=bits BinOp.and IntKind.i64 s t:=by
 unfold withM rightM
 rw[if_pos (by simp;exact h),and_both s t h.1 h.2]
theorem token_calls {B:Nat}{whole:ByteArray}{a:Option Addr}{len cap:Nat}{sp:List SpecD}{gs:List Grp}{ks:List KindD}(w:World)(h:RSch w B whole a len cap sp gs)(hks:ks.map (·.1)=zeroS::sp)(ta:Option Addr)(tl tc:Nat)(l:List Tok)(hl:Toks w ta tl l)(hsz:tl<=2048)(j:Nat)(x:Tok)(hx:l[j]? = some x)(hr:x.k=0->0<=x.m/\x.m<=4)(i:Int)(hp:KnownP sp l i) :
  Calls Tryz.prog 72 #[.pointer (some ⟨B,0,none⟩),.slice ta tl tc,.int .i64 (j:Int),.int .i64 i] w fun e w' => e=.returned (.bool (fitsB ks (specAt ks l i) x))/\Below w.heap.size w w' := by
 have hjl:=(zzc.1 hx).1
 have hll:=hl.1
 have hsl:sp.length=len:=by obtain⟨_,_,_,_,_,_,_,h3,_⟩:=h;exact h3.1
 have hkl:=ks_len hks
 obtain⟨b,o,y,rfl,hbl,hy,hc⟩:=hl.token (k:=j) oo
 obtain rfl:x=y:=zzo (hx.symm.trans hy)
 obtain⟨c0,c1,c2,c3⟩:=hc w (zzd _ _)
 obtain⟨xk,xt,xn,xm⟩:=x
 dsimp only at *
 obtain⟨V,hV⟩:∃V,V=w.alloc (.cells #[.int .i64 xk,.int .i64 xt,.int .i64 xn,.int .i64 xm] 58):=⟨_,rfl⟩
 have hBV:Below w.heap.size w V:=by rw[hV];exact(zzd _ w).alloc (zzb _) _
 have m0:V.heap[w.heap.size]? = some (.cells #[.int .i64 xk,.int .i64 xt,.int .i64 xn,.int .i64 xm] 58 (0,0)):=by rw[hV];exact World.alloc_heap_new w _
 have m0l:=(zza.1 m0).1
 have HT:Hid (∀Y,Below V.heap.size V Y->Y.cell? ⟨w.heap.size,0,none⟩=some (.int .i64 xk)/\Y.cell? ⟨w.heap.size,1,none⟩=some (.int .i64 xt)/\Y.cell? ⟨w.heap.size,2,none⟩=some (.int .i64 xn)/\Y.cell? ⟨w.heap.size,3,none⟩=some (.int .i64 xm)):=fun Y hY=>by
  have hb:=(hY.block _ m0l).trans m0;exact⟨cell_of_row Y w.heap.size 0 _ _ _ hb,cell_of_row Y w.heap.size 1 _ _ _ hb,cell_of_row Y w.heap.size 2 _ _ _ hb,cell_of_row Y w.heap.size 3 _ _ _ hb⟩
 have hjt:(j:Int)<(tl:Int):=by omega
 have htl:(tl:Int)<=2048:=by omega
 have HS:Hid (∀Y,Below V.heap.size V Y->∀t:Int,Calls Tryz.prog 19 #[.pointer (some ⟨B,0,none⟩),.int .i64 t] Y fun e w' => e=.returned (.tuple #[specV (specL sp t),.bool (decide (1<=t/\t<=(len:Int)))])/\Below Y.heap.size Y w'):=fun Y hY t=>rspec_calls Y (h.below (hBV.trans (hY.mono hBV.size))) t
 have HBV:=Hid.mk_ hBV
 obtain⟨t0,t1,t2,t3⟩:=HT.out V (zzd _ _)
 by_cases k0:xk=0
 ·subst k0
  have hw:=withM_right (hr rfl)
  have HR:Hid (∀s:SpecD,fitsB ks s ⟨0,xt,xn,xm⟩=((bits BinOp.and IntKind.i64 xm s.marks==xm)&&(xn != 10||s.lines))):=fun s=>by
   show fitsB ks s _=_
   unfold fitsB takesR;rw[if_pos rfl,hw]
  by_cases hi:i = -1
  ·subst hi
   rw[spec_whole hks l,HR.out];unfold zeroS;dsimp only;generalize hq:bits BinOp.and IntKind.i64 xm 0=Q at *;(have HB2:Hid (Below w.heap.size w ((w.alloc (.cells #[.int .i64 0,.int .i64 xt,.int .i64 xn,.int .i64 xm] 58)).alloc (.cells #[.string ⟨#[]⟩,.string ⟨#[]⟩,.bool false,.int .i64 0,.int .i64 0,.int .i64 0,.bool false] 34))):=by rw[<-hV];exact hBV.alloc hBV.size _);clear h hks hl hsz hx hr hp hc hy hw hBV m0 HR HS HT hbl hV t0 t1 t2 t3 HBV m0l hjl hll hsl hkl;generalize e1:(Q==xm)=p1;generalize e2:(xn != 10)=p2;cases p1<;>cases p2
   all_goals
    go_enter Tryz.func72,Tryz.ntmps72;go_wp2;go_ret;exact⟨rfl,HB2.out⟩
  ·have hkn:=hp
   rcases hp with e | ⟨m,n,rfl,hm,ht,hn⟩
   ·exact absurd e hi
   rw[spec_known hks hi hkn,HR.out,ht];(have HS2:=fun (Y:World) (hY:Below V.heap.size V Y)=>HS.out Y hY ((n:Int)+1));rw[show decide (1<=(n:Int)+1/\(n:Int)+1<=(len:Int))=true by simp;omega] at HS2;generalize specL sp ((n:Int)+1)=ss at *;obtain⟨sn,se,sf,sm,sl,sk,sb⟩:=ss;unfold specV at HS2;dsimp only at HS2 ⊢;generalize hq:bits BinOp.and IntKind.i64 xm sm=Q at *;obtain⟨b', o', y,e', hbl', hy', hc'⟩:=hl.token (k:=m) oo;cases e'
   have hyt:y.t=(n:Int)+1:=by
    unfold typeAt at ht;rw[Int.toNat_natCast,hy'] at ht;exact ht
   obtain⟨V2,hV2⟩:∃V2,V2=V.alloc (.cells #[.string ⟨#[]⟩,.string ⟨#[]⟩,.bool false,.int .i64 0,.int .i64 0,.int .i64 0,.bool false] 34):=⟨_,rfl⟩;(have hB2:Below V.heap.size V V2:=by rw[hV2];exact(zzd _ V).alloc (zzb _) _);(have m2:V2.heap[V.heap.size]? = some (.cells #[.string ⟨#[]⟩,.string ⟨#[]⟩,.bool false,.int .i64 0,.int .i64 0,.int .i64 0,.bool false] 34 (0,0)):=by rw[hV2];exact World.alloc_heap_new V _);have m2l:=(zza.1 m2).1;(have hsV:V.heap.size=w.heap.size+1:=by rw[hV];simp);rw[hsV] at m2;(have HST:Hid (∀Y,Below V2.heap.size V2 Y->Y.heap[w.heap.size+1]? = some (.cells #[.string ⟨#[]⟩,.string ⟨#[]⟩,.bool false,.int .i64 0,.int .i64 0,.int .i64 0,.bool false] 34 (0,0))/\Below V.heap.size V (Y.setRow (w.heap.size+1) #[.string sn,.string se,.bool sf,.int .i64 sm,.int .i64 sl,.int .i64 sk,.bool sb])):=fun Y hY=>⟨(hY.block _ oo).trans m2,below_setRow (hB2.trans (hY.mono hB2.size)) oo _⟩);have d1:=(hc' V2 (hBV.trans (hB2.mono hBV.size))).2.1;rw[hyt] at d1;(have hmt:(m:Int)<(tl:Int):=by omega);(have hm0:(0:Int)<=(m:Int):=by omega);have HS3:=HS2 V2 hB2;rw[hV2,hV] at d1;have HV:=Hid.mk_ hV;have HV2:=Hid.mk_ hV2;clear h hks hl hsz hx hr hkn hc hy hw hB2 m2 m2l hsV m0 HR HS HS2 hbl t0 t1 t2 t3 m0l hjl hll hsl hkl hi hm ht hn hbl' hy' hc' hyt hBV hV hV2;generalize e1:(Q==xm)=p1;generalize e2:(xn != 10)=p2;cases p1<;>cases p2
   all_goals
    go_enter Tryz.func72,Tryz.ntmps72;(go_wp2_with fail);rw[<-HV.out,<-HV2.out];refine HS3.mono ?_;rintro e X ⟨rfl,hX⟩;obtain⟨g1,g2⟩:=HST.out X hX;obtain⟨u0,u1,u2,u3⟩:=HT.out _ g2;have v3:=cell_of_row _ _ 3 _ _ _ (setRow_heap X _ _ #[.string sn,.string se,.bool sf,.int .i64 sm,.int .i64 sl,.int .i64 sk,.bool sb] _ _ g1);have v6:=cell_of_row _ _ 6 _ _ _ (setRow_heap X _ _ #[.string sn,.string se,.bool sf,.int .i64 sm,.int .i64 sl,.int .i64 sk,.bool sb] _ _ g1);have HG1:=Hid.mk_ g1;have HE:=Hid.mk_ (HBV.out.trans (g2.mono HBV.out.size));clear g1 g2 hX HST HT HS3 d1;dsimp at v3 v6;(go_wp2_with (refine wpList_store_row rfl 34 _ _ rfl (w.heap.size+1) #[.string sn,.string se,.bool sf,.int .i64 sm,.int .i64 sl,.int .i64 sk,.bool sb] rfl rfl 34 _ HG1.out sizeSpec rfl (ones7 _ _ _ _ _ _ _) ?_));go_ret;exact⟨rfl,HE.out⟩
 ·have hkk:(xk==0)=false:=by simpa using k0
  have HR:Hid (fitsB ks (specAt ks l i) ⟨xk,xt,xn,xm⟩=(decide (1<=xt/\xt<=(len:Int))&&(decide ((specL sp xt).least<=xn)&&(decide (xn<=(specL sp xt).most)&&((specL sp xt).leaf==(xk==3)))))):=by
   show fitsB ks (specAt ks l i) _=_
   unfold fitsB;rw[if_neg k0]
   by_cases hin:1<=xt/\xt<=(len:Int)
   ·rw[if_pos (show 1<=xt/\xt<(ks.length:Int) by omega),ks_specL hks hin.1 oo,show decide (1<=xt/\xt<=(len:Int))=true by simpa using hin]
    unfold mayBeB;dsimp only;generalize ((specL sp xt).leaf==(xk==3))=p1;generalize decide ((specL sp xt).least<=xn)=p2;generalize decide (xn<=(specL sp xt).most)=p3;cases p1<;>cases p2<;>cases p3<;>rfl
   ·rw[if_neg (show ¬(1<=xt/\xt<(ks.length:Int)) by omega),show decide (1<=xt/\xt<=(len:Int))=false by simpa using hin]
    rfl
  rw[HR.out];have HS2:=HS.out V (zzd _ _) xt;generalize decide (1<=xt/\xt<=(len:Int))=okb at *;generalize specL sp xt=ss at *;obtain⟨sn,se,sf,sm,sl,sk,sb⟩:=ss;unfold specV at HS2;dsimp only at HS2 ⊢;(have HST:Hid (∀Y,Below V.heap.size V Y->Below V.heap.size V (Y.alloc (.cells #[.string sn,.string se,.bool sf,.int .i64 sm,.int .i64 sl,.int .i64 sk,.bool sb] 34))):=fun Y hY=>hY.alloc hY.size _);have HV:=Hid.mk_ hV;clear h hks hl hsz hx hr hp hc hy HR HS hbl m0 m0l hjl hll hsl hkl hBV hV k0;rw[HV.out] at t0 t1 t2 t3;generalize e1:decide (sl<=xn)=p1;generalize e2:decide (xn<=sk)=p2;generalize e3:(xk==3)=p3;generalize e4:(sf==p3)=p4;cases okb<;>cases p1<;>cases p2
  all_goals
   go_enter Tryz.func72,Tryz.ntmps72;(go_wp2_with fail);rw[<-HV.out];refine HS2.mono ?_;rintro e X ⟨rfl,hX⟩;have g2:=HST.out X hX;obtain⟨u0,u1,u2,u3⟩:=HT.out _ g2;have HE:=Hid.mk_ (HBV.out.trans (g2.mono HBV.out.size));clear g2 hX HST HT HS2;go_wp2;go_ret;exact⟨rfl,HE.out⟩
theorem hidC9 {p:Prop}(h:p):Hid p:=h
theorem k31{p:Prop}(h:p:=by
  have HD:=hidC9 (show deepK (kindAt l (k0+j)) d=d - 1 from by rw[kindAt_some hx];unfold deepK;rw[if_neg oo,if_pos hk2]);have HR:=hidC9 (show refW l (k0+j) (f - j) d=refW l (k0+(j+1)) (f - (j+1)) (d - 1) from by rw[show f - j=(f - (j+1))+1 by omega,refW,if_neg (by rw[kindAt_some hx];exact hno),HD.out];rfl);rw[hk2] at hc;obtain⟨c0,c1⟩:=hc wr HB.out;clear hc;go_wp2
  go_roundg (f - j)
  case measure=>omega
  case rel=>exact⟨j+1,ua,uc,d - 1,xs,oo,oo,rfl,by go_num,by go_num,by rw[<-HRF.out,HR.out],oo,oo,HOW.out,HB.out⟩
  ):p:=h
theorem rword_calls (a:Option Addr)(len cap:Nat)(l:List Tok)(i:Int)(k0 to f:Nat)(w:World)(hl:Toks w a len l)(hsz:len<=2048)(hi:i+1=(k0:Int))(hto:to<=len)(hf:k0+f=to) :
  Calls Tryz.prog 38 #[.slice a len cap,.int .i64 i,.int .i64 (to:Int)] w fun e w' => ∃wa wc,e=.returned (.slice wa (refW l k0 f 0).length wc)/\w'.ownsRow w.heap.size 3 1 (.slice wa (refW l k0 f 0).length wc) (refW l k0 f 0).length (intsV (refW l k0 f 0))/\Below w.heap.size w w' := by
 have HL:Hid (∀p:Nat,p<len->∃b o x,a=some ⟨b,o,none⟩/\l[p]? = some x/\∀X:World,Below w.heap.size w X->X.cell? ⟨b,o+p * 4,none⟩=some (.int .i64 x.k)/\X.cell? ⟨b,o+p * 4+1,none⟩=some (.int .i64 x.t)):=fun p hp=>by
  obtain⟨b,o,x,h1,_,h3,h4⟩:=hl.token hp;exact⟨b,o,x,h1,h3,fun X hX=>⟨(h4 X hX).1,(h4 X hX).2.1⟩⟩
 have hli:(len:Int)<=2048:=by omega
 have hti:(to:Int)<=(len:Int):=by omega
 have HO0:Hid (w.ownsRow w.heap.size 3 1 (.slice none 0 0) 0 (intsV [])):=World.ownsRow_nil ..
 obtain⟨R,hR⟩:∃R,refW l k0 f 0=R:=⟨_,rfl⟩
 rw[hR]
 have HR0:=hidC9 hR
 clear hl hR
 go_enter Tryz.func38,Tryz.ntmps38
 go_wp2
 go_loopg [7,8,9] (f+1) (fun gk u v z wr=>∃(j:Nat) (ua:Option Addr) (uc:Nat) (d:Int) (xs:List Int),j<=f/\f<j+gk/\u=.slice ua xs.length uc/\v=.int .i64 d/\z=.int .i64 ((k0+j:Nat):Int)/\xs++refW l (k0+j) (f - j) d=R/\xs.length<=j/\(-(j:Int)<=d/\d<=(j:Int))/\wr.ownsRow w.heap.size 3 1 (.slice ua xs.length uc) xs.length (intsV xs)/\Below w.heap.size w wr)
 case atStart=>exact⟨0,none,0,0,[],zzn _,oo,rfl,rfl,by first | rfl | go_num | (congr 1;omega),by rw[<-HR0.out];simp,zzn _,oo,HO0.out,zzd _ _⟩
 case round=>
  obtain⟨j,ua,uc,d,xs,hj,hgk,rfl,rfl,rfl,hrf,hxl,hdd,hown,hB⟩:=hrel;have HRF:=hidC9 hrf;have HOW:=hidC9 hown;have HB:=hidC9 hB;clear hrf hown hB HO0 HR0
  by_cases hlt:j<f
  ·obtain⟨b,o,x,rfl,hx,hc⟩:=HL.out (k0+j) oo
   (have hii:((k0+j:Nat):Int)<(to:Int):=by omega);(have hil:((k0+j:Nat):Int)<(len:Int):=by omega);(have hs1:xs.length+1<=1000000000:=by omega);have htx:typeAt l ((k0+j:Nat):Int)=x.t:=by unfold typeAt;rw[Int.toNat_natCast,hx];rfl
   by_cases hd0:d=0
   ·by_cases hk2:x.k=2
    ·have hno:¬(d=0/\x.k≠2):=fun h=>h.2 hk2
     exact k31
    ·by_cases hk1:x.k=1
     ·skip
      have HD:=hidC9 (show deepK (kindAt l (k0+j)) d=d+1 from by rw[kindAt_some hx];unfold deepK;rw[if_pos hk1]);have HR:=hidC9 (show refW l (k0+j) (f - j) d=x.t::refW l (k0+(j+1)) (f - (j+1)) (d+1) from by rw[show f - j=(f - (j+1))+1 by omega,refW,if_pos ⟨hd0,by rw[kindAt_some hx];omega⟩,htx,HD.out];rfl);rw[hk1] at hc;subst hd0;obtain⟨c0,c1⟩:=hc wr HB.out;have hown2:=World.ownsRow.alloc HOW.out (.cells #[.int .i64 x.t] 3);have hints:=Ints.one (World.alloc_heap_new wr (.cells #[.int .i64 x.t] 3));have HW:=hidC9 (And.intro hown2 (And.intro hints (HB.out.alloc HB.out.size (.cells #[.int .i64 x.t] 3))));have HC:=hidC9 hc;clear hown2 hints hc;go_wp2_with (first | (at_builtin;refine wpList_append_ints rfl (.tmp 27) (.tmp 33) rfl w.heap.size _ xs.length _ rfl HW.out.1 _ 1 1 [x.t] rfl (fun e=>by cases e) HW.out.2.1 hs1 HW.out.2.2.size ?_;intro v1 W5 hown3 hB3;obtain⟨va,vc,rfl⟩:=shape_owns hown3;obtain⟨c0,c1⟩:=HC.out W5 (HW.out.2.2.trans hB3);have HN:=hidC9 (And.intro hown3 (HW.out.2.2.trans hB3));clear hown3 hB3 HW) | fail)
      go_roundg (f - j)
      case measure=>omega
      case rel=>exact⟨j+1,va,vc,(0:Int)+1,xs++[x.t],oo,oo,by rw[List.length_append,List.length_singleton],by go_num,by go_num,by rw[<-HRF.out,HR.out,List.append_assoc,List.singleton_append],by rw[List.length_append,List.length_singleton];omega,oo,by rw[List.length_append,List.length_singleton];exact HN.out.1,HN.out.2⟩
     ·skip
      have HD:=hidC9 (show deepK (kindAt l (k0+j)) d=d from by rw[kindAt_some hx];unfold deepK;rw[if_neg hk1,if_neg hk2]);have HR:=hidC9 (show refW l (k0+j) (f - j) d=x.t::refW l (k0+(j+1)) (f - (j+1)) (d) from by rw[show f - j=(f - (j+1))+1 by omega,refW,if_pos ⟨hd0,by rw[kindAt_some hx];omega⟩,htx,HD.out];rfl);(have b1:(x.k==1)=false:=by simpa using hk1);(have b2:(x.k==2)=false:=by simpa using hk2);(have b3:(x.k != 2)=true:=by simpa using hk2);subst hd0;obtain⟨c0,c1⟩:=hc wr HB.out;have hown2:=World.ownsRow.alloc HOW.out (.cells #[.int .i64 x.t] 3);have hints:=Ints.one (World.alloc_heap_new wr (.cells #[.int .i64 x.t] 3));have HW:=hidC9 (And.intro hown2 (And.intro hints (HB.out.alloc HB.out.size (.cells #[.int .i64 x.t] 3))));have HC:=hidC9 hc;clear hown2 hints hc;go_wp2_with (first | (at_builtin;refine wpList_append_ints rfl (.tmp 27) (.tmp 33) rfl w.heap.size _ xs.length _ rfl HW.out.1 _ 1 1 [x.t] rfl (fun e=>by cases e) HW.out.2.1 hs1 HW.out.2.2.size ?_;intro v1 W5 hown3 hB3;obtain⟨va,vc,rfl⟩:=shape_owns hown3;obtain⟨c0,c1⟩:=HC.out W5 (HW.out.2.2.trans hB3);have HN:=hidC9 (And.intro hown3 (HW.out.2.2.trans hB3));clear hown3 hB3 HW) | fail)
      go_roundg (f - j)
      case measure=>omega
      case rel=>exact⟨j+1,va,vc,(0:Int),xs++[x.t],oo,oo,by rw[List.length_append,List.length_singleton],by go_num,by go_num,by rw[<-HRF.out,HR.out,List.append_assoc,List.singleton_append],by rw[List.length_append,List.length_singleton];omega,oo,by rw[List.length_append,List.length_singleton];exact HN.out.1,HN.out.2⟩
   ·have hno:¬(d=0/\x.k≠2):=fun h=>hd0 h.1
    have bd:(d==0)=false:=by simpa using hd0
    by_cases hk2:x.k=2
    ·skip
     exact k31
    ·by_cases hk1:x.k=1
     ·skip
      have HD:=hidC9 (show deepK (kindAt l (k0+j)) d=d+1 from by rw[kindAt_some hx];unfold deepK;rw[if_pos hk1]);have HR:=hidC9 (show refW l (k0+j) (f - j) d=refW l (k0+(j+1)) (f - (j+1)) (d+1) from by rw[show f - j=(f - (j+1))+1 by omega,refW,if_neg (by rw[kindAt_some hx];exact hno),HD.out];rfl);rw[hk1] at hc;(have b0:(d==0)=false:=by simp only[beq_eq_false_iff_ne];intro e;exact hno ⟨e,oo⟩);obtain⟨c0,c1⟩:=hc wr HB.out;clear hc;go_wp2
      go_roundg (f - j)
      case measure=>omega
      case rel=>exact⟨j+1,ua,uc,d+1,xs,oo,oo,rfl,by go_num,by go_num,by rw[<-HRF.out,HR.out],oo,oo,HOW.out,HB.out⟩
     ·skip
      have HD:=hidC9 (show deepK (kindAt l (k0+j)) d=d from by rw[kindAt_some hx];unfold deepK;rw[if_neg hk1,if_neg hk2]);have HR:=hidC9 (show refW l (k0+j) (f - j) d=refW l (k0+(j+1)) (f - (j+1)) (d) from by rw[show f - j=(f - (j+1))+1 by omega,refW,if_neg (by rw[kindAt_some hx];exact hno),HD.out];rfl);(have b1:(x.k==1)=false:=by simpa using hk1);(have b2:(x.k==2)=false:=by simpa using hk2);(have b3:(x.k != 2)=true:=by simpa using hk2);(have b0:(d==0)=false:=by simp only[beq_eq_false_iff_ne];intro e;exact hno ⟨e,oo⟩);obtain⟨c0,c1⟩:=hc wr HB.out;clear hc;go_wp2
      go_roundg (f - j)
      case measure=>omega
      case rel=>exact⟨j+1,ua,uc,d,xs,oo,oo,rfl,by go_num,by go_num,by rw[<-HRF.out,HR.out],oo,oo,HOW.out,HB.out⟩
  ·obtain rfl:j=f:=by omega
   (have hii:¬((k0+j:Nat):Int)<(to:Int):=by omega);have HXR:=hidC9 (show xs=R from by rw[<-HRF.out,Nat.sub_self,refW,List.append_nil]);go_wp2;go_ret;rw[<-HXR.out];exact⟨ua,uc,rfl,HOW.out,HB.out⟩
theorem open_calls (a:Option Addr)(len cap:Nat)(l:List Tok)(at' : Int)(w:World)(hl:Toks w a len l)(hsz:len<=4398046511104) :
  Calls Tryz.prog 79 #[.slice a len cap,.int .i64 at'] w fun e w' => ∃a' cap', e=.returned (.slice a' (opened l at').length cap')/\Row .i64 w' a' (opened l at').length (opened l at')/\Below w.heap.size w w' := by
 obtain⟨i0,hi,hz0,hz1,hz2⟩:=info_parts info3
 have hN:=upTo_le len at'
 have hO:=opened_upTo l at'
 rw[hl.1] at hO
 have HO:Hid (opened l at' = openL ((l.take (upTo len at')).drop 0) 0 []):=hO
 clear hO
 have hU:(upTo len at' = at' /\ 0<at')\/(upTo len at' = 0/\(at' <= 0\/(len:Int)<at')):=by unfold upTo;split<;>omega
 generalize upTo len at' = N at *
 generalize hR:opened l at' = R at *
 clear hR
 go_enter Tryz.func79,Tryz.ntmps79
 go_wp2
 go_loopw [5,6] (fun u i w' => ∃(k:Nat) (s:List Int),k<=N/\i=.int .i64 (k:Int)/\s.length<=k/\w'.ownsRow w.heap.size 3 1 u s.length (s.map (Value.int .i64))/\R=openL ((l.take N).drop k) k s/\Below w.heap.size w w') (fun _ i _=>N - (intOf i).toNat)
 case atStart=>exact⟨0,[],zzn _,rfl,zzb _,World.ownsRow_nil _ _ _ _,HO.out,zzd _ _⟩
 case round=>
  obtain⟨k,s,hk,rfl,hs,hrow,hRs,hB⟩:=hrel
  by_cases hlt:k<N
  ·obtain⟨x,hx,hst⟩:=openL_step (l:=l) hlt (by rw[hl.1];exact hN) s
   obtain⟨b,o,rfl,hbl,hc⟩:=hl.kind hx;have hc0:=hc wr hB;rw[hst] at hRs;clear hl hst hx HO;generalize x.k=xk at *;(obtain⟨rfl,hat⟩:at' = (N:Int)/\N<=len:=by omega);clear hU
   by_cases k1:xk=1
   ·subst k1
    rw[if_pos rfl] at hRs;have HR:Hid (R=openL ((l.take N).drop (k+1)) (k+1) (s++[(k:Int)])):=hRs;clear hRs;go_wp2_with (at_builtin;refine wpList_append_own _ rfl _ _ 61 rfl w.heap.size 3 i0 (.int .i64 0) 1 8 Tryz.underlying61 hi hz0 hz1 hz2 rfl (by decide) _ _ _ rfl (hrow.alloc _) ⟨wr.heap.size,0,none⟩ 1 1 [.int .i64 (k:Int)] rfl rfl (cell_one_new _ _ _) (by simp[Value.oneCell']) (by unfold maxLen;omega) oo (by have:=hB.size;simp;omega) ?_;intro v2 w2 hown2 hgrow hnil2;have hB2:=below_append hB hrow hB.size hgrow;have hc2:=hc w2 hB2)
    go_roundw
    case rel=>exact⟨k+1,s++[(k:Int)],oo,rfl,by simp;omega,by simpa using hown2,HR.out,hB2⟩
    case measure=>simp[intOf];omega
   ·rw[if_neg k1] at hRs
    by_cases k2:xk=2
    ·subst k2
     rw[if_pos rfl] at hRs
     by_cases h0:s.length=0
     ·rw[dropLast_none h0] at hRs
      have HR:Hid (R=openL ((l.take N).drop (k+1)) (k+1) s):=hRs;have HW:Hid (wr.ownsRow w.heap.size 3 1 u5 s.length (s.map (Value.int .i64))):=hrow;obtain⟨a', cap', hu,hr⟩:=row_of_owns hrow;rw[h0] at hu;clear hRs hrow hr;subst hu;go_wp2
      go_roundw
      case rel=>exact⟨k+1,s,oo,rfl,oo,HW.out,HR.out,hB⟩
      case measure=>simp[intOf];omega
     ·have HR:Hid (R=openL ((l.take N).drop (k+1)) (k+1) s.dropLast):=hRs
      obtain⟨n,hn⟩:∃n,s.length=n+1:=⟨s.length - 1,oo⟩;rw[hn] at hrow;obtain⟨g,cp,hu,hc1,hc2,hrow2⟩:=owns_shrink hrow;unfold maxLen at hc2;(have HS:Hid (s.dropLast.length=n):=by show s.dropLast.length=n;rw[List.length_dropLast];omega);clear hRs hrow;subst hu;go_wp2
      go_roundw
      case rel=>exact⟨k+1,s.dropLast,oo,rfl,by rw[HS.out];omega,by rw[HS.out];exact hrow2,HR.out,hB⟩
      case measure=>simp[intOf];omega
    ·rw[if_neg k2] at hRs
     (have e1:(xk==1)=false:=by simpa using k1);(have e2:(xk==2)=false:=by simpa using k2);have HR:Hid (R=openL ((l.take N).drop (k+1)) (k+1) s):=hRs;clear hRs;go_wp2
     go_roundw
     case rel=>exact⟨k+1,s,oo,rfl,oo,hrow,HR.out,hB⟩
     case measure=>simp[intOf];omega
  ·obtain rfl:k=N:=by omega
   rw[show (l.take k).drop k=[] from List.drop_eq_nil_of_le (by rw[List.length_take];omega),openL] at hRs;obtain⟨a', cap', hu,hr⟩:=row_of_owns hrow;rw[<-hRs] at hu hr;generalize hn:R.length=n at hu hr;have HN:Hid (R.length=n):=hn;clear hn hrow hRs HO hl;subst hu;rcases hU with ⟨hU,_⟩ | ⟨hU,hat | hat⟩
   ·obtain rfl:at' = (k:Int):=by omega
    go_wp2;go_ret;exact⟨a', ⟨cap', by rw[HN.out];rfl⟩,by rw[HN.out];exact hr,hB⟩
   ·obtain rfl:k=0:=by omega
    go_wp2;go_ret;exact⟨a', ⟨cap', by rw[HN.out];rfl⟩,by rw[HN.out];exact hr,hB⟩
   ·obtain rfl:k=0:=by omega
    go_wp2
    all_goals go_ret
    all_goals exact⟨a', ⟨cap', by rw[HN.out];rfl⟩,by rw[HN.out];exact hr,hB⟩
theorem around_calls (a:Option Addr)(len cap:Nat)(l:List Tok)(p:Int)(w:World)(hl:Toks w a len l)(hsz:len<=4398046511104) :
  Calls Tryz.prog 41 #[.slice a len cap,.int .i64 p] w fun e w' => e=.returned (.int .i64 (around l p))/\Below w.heap.size w w' := by
 have h1:=open_calls a len cap l p w hl hsz
 have hq:=opened_length l p
 rw[hl.1] at hq
 unfold around
 generalize opened l p=R at *
 cases hn:R.length with
 | zero=>
  obtain rfl:R=[]:=List.length_eq_zero_iff.1 hn;go_enter Tryz.func41,Tryz.ntmps41;(go_wp2_with fail);refine h1.mono ?_;rintro e W ⟨a', cap', rfl,hr,hB⟩;clear h1;go_wp2;go_ret;exact⟨rfl,hB⟩
 | succ n=>
  rw[last_row hn];rw[hn] at h1 hq;generalize hy:R.getD n 0=y at *;go_enter Tryz.func41,Tryz.ntmps41;(go_wp2_with fail);refine h1.mono ?_;rintro e W ⟨a', cap', rfl,hr,hB⟩;clear h1
  obtain⟨b,o,rfl,hbl,hc⟩:=(show ∃b o,a' = some ⟨b,o,none⟩/\b<W.heap.size/\∀i,i<n+1->W.cell? ⟨b,o+i,none⟩=some (.int .i64 (R.getD i 0)) from by
   rcases hr.2 with h | h
   ·omega
   ·exact h)
  have hc0:=hc n oo;rw[hy] at hc0;clear hc hy;go_wp2;go_ret;exact⟨rfl,hB⟩
theorem k113{p:Prop}(h:p:=by
  go_enter Tryz.func48,Tryz.ntmps48;go_wp2;go_ret;exact⟨rfl,zzd _ _⟩
  ):p:=h
theorem partner_calls (a:Option Addr)(len cap:Nat)(l:List Tok)(i:Int)(w:World)(hl:Toks w a len l)(hsz:len<=4398046511104) :
  Calls Tryz.prog 48 #[.slice a len cap,.int .i64 i] w fun e w' => e=.returned (.int .i64 (partner l i))/\Below w.heap.size w w' := by
 have hp:partner l i=if i<0\/(len:Int)<=i then -1 else if kindAt l i.toNat=2 then around l i else if kindAt l i.toNat=1 then seek l i (i.toNat+1) (len - (i.toNat+1)) else -1:=by unfold partner;rw[hl.1]
 by_cases h0:i<0
 ·rw[hp,if_pos (.inl h0)]
  exact k113
 by_cases h1:(len:Int)<=i
 ·rw[hp,if_pos (.inr h1)]
  exact k113
 rw[if_neg oo] at hp
 obtain⟨n,rfl⟩:=Int.eq_ofNat_of_zero_le (show 0<=i by omega)
 have hn:n<len:=by omega
 rw[Int.toNat_natCast] at hp
 obtain⟨b,o,rfl,hbl,hc⟩:=hl.kindAt hn
 have hc0:=hc w (zzd _ _)
 by_cases k2:kindAt l n=2
 ·rw[if_pos k2] at hp
  rw[k2] at hc0;rw[hp];(have hA:=fun W (hW:Below w.heap.size w W)=>around_calls _ len cap l (n:Int) W (hl.below hW) hsz);generalize around l (n:Int)=y at *;go_enter Tryz.func48,Tryz.ntmps48;(go_wp2_with fail);refine(hA _ (zzd _ _)).mono ?_;rintro e W1 ⟨rfl,hB⟩;go_wp2;go_ret;exact⟨rfl,hB⟩
 by_cases k1:kindAt l n=1
 ·rw[if_neg k2,if_pos k1] at hp
  rw[k1] at hc0;have HP:Hid (partner l n=seek l n (n+1) (len - (n+1))):=hp;clear hp;go_enter Tryz.func48,Tryz.ntmps48;go_wp2
  go_loopw [5] (fun u w' => ∃k:Nat,k<=len/\n<k/\u=.int .i64 (k:Int)/\partner l n=seek l n k (len - k)/\Below w.heap.size w w') (fun u _=>len - (intOf u).toNat)
  case atStart=>exact⟨n+1,oo,oo,by simp,HP.out,zzd _ _⟩
  case round=>
   obtain⟨k,hk,hnk,rfl,hs,hB⟩:=hrel
   by_cases hlt:k<len
   ·rw[show len - k=(len - (k+1))+1 from by omega,seek] at hs
    obtain⟨b', o', e', _,hc'⟩:=hl.kindAt hlt;cases e';have hc1:=hc' wr hB;(have hA:=fun W (hW:Below w.heap.size w W)=>around_calls _ len cap l (k:Int) W (hl.below hW) hsz);have hf:=around_fits l k;clear hc' HP
    by_cases q2:kindAt l k=2
    ·rw[q2] at hc1
     generalize around l (k:Int)=y at *
     by_cases hy:y=n
     ·subst hy
      rw[if_pos ⟨q2,rfl⟩] at hs;have HS:Hid (partner l n=k):=hs;clear hs;(go_wp2_with fail);refine(hA _ hB).mono ?_;rintro e W1 ⟨rfl,hB1⟩;go_wp2;go_ret;exact⟨by rw[HS.out];rfl,hB.trans (hB1.mono hB.size)⟩
     ·rw[if_neg oo] at hs
      have HS:Hid (partner l n=seek l n (k+1) (len - (k+1))):=hs;(have ey:(y==(n:Int))=false:=by simpa using hy);clear hs;(go_wp2_with fail);refine(hA _ hB).mono ?_;rintro e W1 ⟨rfl,hB1⟩;go_wp2
      go_roundw
      case rel=>exact⟨k+1,oo,oo,rfl,HS.out,hB.trans (hB1.mono hB.size)⟩
      case measure=>simp[intOf];omega
    ·rw[if_neg (by intro h;exact q2 h.1)] at hs
     have HS:Hid (partner l n=seek l n (k+1) (len - (k+1))):=hs;generalize kindAt l k=z at *;(have ey:(z==2)=false:=by simpa using q2);clear hs hA;go_wp2
     go_roundw
     case rel=>exact⟨k+1,oo,oo,rfl,HS.out,hB⟩
     case measure=>simp[intOf];omega
   ·obtain rfl:k=len:=by omega
    rw[Nat.sub_self,seek] at hs;have HS:Hid (partner l n = -1):=hs;clear hs;go_wp2;go_ret;exact⟨by rw[HS.out];rfl,hB⟩
 ·rw[if_neg k2,if_neg k1] at hp
  rw[hp];generalize kindAt l n=z at *;(have e1:(z==1)=false:=by simpa using k1);(have e2:(z==2)=false:=by simpa using k2);exact k113
end Go.Proofs.YtjkebndkeamijaaGreatDoor
