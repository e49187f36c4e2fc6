/-
  PROVED HERE: what the texts DFFTok, DFFCheck, DFOwn, DFSchF say.
-/
import Derived.Test.YtjkebndkeamijaaGreatDoorCF30
import Derived.Deep.AppendSrc
import Derived.RangeFuncRecord
set_option maxRecDepth 100000
set_option maxHeartbeats 4000000
namespace Go.Proofs.YtjkebndkeamijaaGreatDoor
open Go.RowKit
theorem fmark_calls (s:Int)(w:World):Calls Tryz.prog 102 #[.int .i64 s] w fun e w' => e=.returned (.bool (rightM s))/\w' = w:=by
 unfold rightM
 cases h1:decide (0<=s)
 all_goals
  go_enter Tryz.func102,Tryz.ntmps102;go_wp2;go_ret;exact⟨rfl,rfl⟩
theorem k118{p:Prop}(h:p:=by
  go_enter Tryz.func101,Tryz.ntmps101;go_wp2;go_ret;exact⟨rfl,rfl⟩
  ):p:=h
theorem fpoint_calls (n:Int)(w:World):Calls Tryz.prog 101 #[.int .i64 n] w fun e w' => e=.returned (.bool (point n))/\w' = w:=by
 by_cases a0:0<=n
 ·by_cases a1:n<55296
  ·rw[show point n=true from by simp[point];omega]
   exact k118
  ·by_cases a2:57343<n
   ·rw[show point n=decide (n<=1114111) from by rw[Bool.eq_iff_iff];simp[point];omega]
    exact k118
   ·rw[show point n=false from by simp[point];omega]
    exact k118
 ·rw[show point n=false from by simp[point];omega]
  have e0:decide (0<=n)=false:=by simpa using a0
  exact k118
theorem k102{p:Prop}(h:p:=by
  go_enter Tryz.func68,Tryz.ntmps68;go_wp2;go_ret;exact⟨rfl,(zzd _ _).alloc (zzb _) _⟩
  ):p:=h
theorem k48{p:Prop}(h:p:=by
  go_enter Tryz.func68,Tryz.ntmps68;(go_wp2_with fail);refine(c1 _).mono ?_;rintro e w' ⟨rfl,rfl⟩;(go_wp2_with fail);refine(c2 _).mono ?_;rintro e w' ⟨rfl,rfl⟩;go_wp2;go_ret;exact⟨rfl,(zzd _ _).alloc (zzb _) _⟩
  ):p:=h
theorem k10{p:Prop}(h:p:=by
  clear hq;cases h0:decide (1<=t)
  ·simp only[Bool.false_and]
   go_enter Tryz.func68,Tryz.ntmps68;go_wp2;go_ret;exact⟨rfl,(zzd _ _).alloc (zzb _) _⟩
  ·cases h1:decide (t<=15)
   ·simp only[Bool.and_false,Bool.false_and]
    go_enter Tryz.func68,Tryz.ntmps68;go_wp2;go_ret;exact⟨rfl,(zzd _ _).alloc (zzb _) _⟩
   ·cases h2:decide (0<=n)
    ·simp only[Bool.and_false,Bool.false_and]
     go_enter Tryz.func68,Tryz.ntmps68;go_wp2;go_ret;exact⟨rfl,(zzd _ _).alloc (zzb _) _⟩
    ·cases h3:decide (n<=15)
     ·simp only[Bool.and_false,Bool.false_and]
      go_enter Tryz.func68,Tryz.ntmps68;go_wp2;go_ret;exact⟨rfl,(zzd _ _).alloc (zzb _) _⟩
     ·cases h4:m==0
      ·simp only[Bool.and_false]
       go_enter Tryz.func68,Tryz.ntmps68;go_wp2;go_ret;exact⟨rfl,(zzd _ _).alloc (zzb _) _⟩
      ·go_enter Tryz.func68,Tryz.ntmps68
       go_wp2;go_ret;exact⟨rfl,(zzd _ _).alloc (zzb _) _⟩
  ):p:=h
theorem fright_calls (x:Tok)(w:World):Calls Tryz.prog 68 #[tokV x] w fun e w' => e=.returned (.bool (rightT x))/\Below w.heap.size w w' := by
 obtain⟨k,t,n,m⟩:=x
 have e16:decide (t<16)=decide (t<=15):=by by_cases h:t<=15<;>simp[h]<;>omega
 have hq:=fun W=>tok_eql ⟨k,t,n,m⟩ ⟨2,0,0,0⟩ W
 unfold tokV rightT
 simp only[tokV,e16] at *
 clear e16
 by_cases k0:k=0
 ·subst k0
  rw[if_pos rfl];(have c1:=fun W=>fpoint_calls n W);(have c2:=fun W=>fmark_calls m W);generalize point n=p at *;generalize rightM m=q at *;cases h0:t==0
  ·simp only[Bool.false_and]
   exact k102
  ·cases h1:p
   ·rw[h1] at c1
    simp only[Bool.and_false,Bool.false_and];go_enter Tryz.func68,Tryz.ntmps68;(go_wp2_with fail);refine(c1 _).mono ?_;rintro e w' ⟨rfl,rfl⟩;go_wp2;go_ret;exact⟨rfl,(zzd _ _).alloc (zzb _) _⟩
   ·rw[h1] at c1
    cases h2:q
    ·rw[h2] at c2
     simp only[Bool.and_false];exact k48
    ·rw[h2] at c2
     exact k48
 rw[if_neg k0]
 have e0:(k==0)=false:=by simpa using k0
 by_cases k1:k=1
 ·subst k1
  rw[if_pos (.inl rfl)];exact k10
 have e1:(k==1)=false:=by simpa using k1
 by_cases k3:k=3
 ·subst k3
  rw[if_pos (.inr rfl)];exact k10
 have e3:(k==3)=false:=by simpa using k3
 rw[if_neg oo]
 by_cases k2:k=2
 ·subst k2
  rw[if_pos rfl]
  have hd:tokEq ⟨2,t,n,m⟩ ⟨2,0,0,0⟩=(t==0&&n==0&&m==0):=by
   rw[Bool.eq_iff_iff];simp[tokEq,and_assoc]
  rw[hd] at hq;clear hd;(have hg:=fun (x y:Operand) (xs ys:Array Value) (W:World)=>tok_eqGuard .eql x y xs ys W);generalize (t==0&&n==0&&m==0)=z at *;exact k102
 have e2:(k==2)=false:=by simpa using k2
 rw[if_neg k2]
 clear hq
 exact k102
theorem Stk.below {w W:World}{base g:Nat}{v:Value}{R:List Int}(h:Stk w base g v R)(hB:Below w.heap.size w W):Stk W base g v R:=by
 have hlt:=h.cells.2.2.2.2.2
 obtain⟨h0,h1,cs,hg,hc⟩:=h
 exact⟨h0,own_below h1 hB oo,cs,(hB.block g hlt).trans hg,hc⟩
theorem tok_kept {w W:World}{k t n m:Int}{T:TypeId}(hB:Below (w.alloc (.cells #[.int .i64 k,.int .i64 t,.int .i64 n,.int .i64 m] T)).heap.size (w.alloc (.cells #[.int .i64 k,.int .i64 t,.int .i64 n,.int .i64 m] T)) W) :
  W.cell? ⟨w.heap.size,0,none⟩=some (.int .i64 k)/\W.cell? ⟨w.heap.size,1,none⟩=some (.int .i64 t)/\W.cell? ⟨w.heap.size,2,none⟩=some (.int .i64 n)/\W.cell? ⟨w.heap.size,3,none⟩=some (.int .i64 m)/\Below w.heap.size w W:=by
 have hg:=heap_alloc_new w (.cells #[.int .i64 k,.int .i64 t,.int .i64 n,.int .i64 m] T)
 have hc:=fun j=>(hB.cell (p:=⟨w.heap.size,j,none⟩) (by simp)).trans (cell_of_row _ w.heap.size j _ _ _ hg)
 refine⟨hc 0,hc 1,hc 2,hc 3,?_⟩
 exact((zzd _ w).alloc (zzb _) _).trans (hB.mono (by simp))
theorem stk_new (w:World):Stk (w.alloc (.cells #[.int .i64 0,.int .i64 0,.int .i64 0,.int .i64 0,.int .i64 0,.int .i64 0,.int .i64 0,.int .i64 0,.int .i64 0,.int .i64 0,.int .i64 0,.int .i64 0,.int .i64 0,.int .i64 0,.int .i64 0,.int .i64 0,.int .i64 0,.int .i64 0,.int .i64 0,.int .i64 0,.int .i64 0,.int .i64 0,.int .i64 0,.int .i64 0,.int .i64 0,.int .i64 0,.int .i64 0,.int .i64 0,.int .i64 0,.int .i64 0,.int .i64 0,.int .i64 0,.slice none 0 0,.int .i64 0] 111)) w.heap.size w.heap.size (.slice none 0 0) []:=by
 refine⟨zzb _,World.ownsRow_nil _ _ _ _,_,heap_alloc_new w _,rfl,fun i _ h=>absurd h (by simp),fun i hi=>⟨0,?_⟩,rfl,rfl⟩
 match i,hi with
 | 0,_ | 1,_ | 2,_ | 3,_ | 4,_ | 5,_ | 6,_ | 7,_ | 8,_ | 9,_ | 10,_ | 11,_ | 12,_ | 13,_ | 14,_ | 15,_ | 16,_ | 17,_ | 18,_ | 19,_ | 20,_ | 21,_ | 22,_ | 23,_ | 24,_ | 25,_ | 26,_ | 27,_ | 28,_ | 29,_ | 30,_ | 31,_=>rfl
 | (n+32),h=>omega
theorem k27{p:Prop}(h:p:=by
  clear hch;(go_wp2_with fail);refine(hr _).mono ?_;rintro e W1 ⟨rfl,hB1⟩;obtain⟨t0,t1,t2,t3,hB2⟩:=tok_kept hB1;have hS1:=hS.below hB2;have hB3:Below w.heap.size w W1:=hB.trans (hB2.mono hB.size);clear hB2 hB1 hS;(go_wp2_with fail);refine(HP.out _ _ _ hS1 hB3.size oo).mono ?_;rintro e W2 ⟨rfl,v', hS2,hB4⟩;have hB5:=hB3.trans hB4;obtain⟨-,s33b,-⟩:=hS2.cells;rw[HT2.out] at s33b;go_wp2
  go_roundw
  case rel=>exact⟨k+1,v', _,oo,rfl,by rw[HT2.out];omega,hS2,by rw[HT2.out];exact HD.out.symm,hB5⟩
  case measure=>simp[intOf];omega
  ):p:=h
theorem fcheck_calls (a:Option Addr)(len cap:Nat)(l:List Tok)(w:World)(hl:Toks w a len l)(hsz:len<=4398046511104) :
  Calls Tryz.prog 33 #[.slice a len cap] w fun e w' => e=.returned (.tuple #[.int .i64 (check l).1,.int .i64 (check l).2])/\Below w.heap.size w w' := by
 by_cases hlong:2048<len
 ·rw[show check l=(0,2) from by unfold check;rw[if_pos (by rw[hl.1];exact hlong)]]
  go_enter Tryz.func33,Tryz.ntmps33;go_wp2;go_ret2;exact⟨rfl,zzd _ _⟩
 ·have HC:Hid (check l=checkL l 0 0):=by show check l=_;unfold check;rw[if_neg (by rw[hl.1];exact hlong)]
  have hnew:=stk_new w;(have hB0:∀o,Below w.heap.size w (w.alloc o):=fun o=>(zzd _ w).alloc (zzb _) o);go_enter Tryz.func33,Tryz.ntmps33;go_wp2
  go_loopw [12] (fun i w' => ∃(k:Nat) (v:Value) (R:List Int),k<=len/\i=.int .i64 (k:Int)/\R.length<=32/\Stk w' w.heap.size w.heap.size v R/\checkL (l.drop k) k (R.length:Int)=check l/\Below w.heap.size w w') (fun i _=>len - (intOf i).toNat)
  case atStart=>exact⟨0,_,[],zzn _,rfl,by simp,hnew,HC.out.symm,hB0 _⟩
  case round=>
   obtain⟨k,v,R,hk,rfl,hR,hS,hch,hB⟩:=hrel;clear hnew hB0;have hl' := hl.below hB;obtain⟨-,s33,-⟩:=hS.cells
   by_cases hlt:k<len
   ·obtain⟨x,hx,hdr⟩:=drop_getD (l:=l) (k:=k) (by rw[hl.1];exact hlt)
    obtain⟨b,o,rfl,hbl,hcl⟩:=(show ∃b o,a=some ⟨b,o,none⟩/\b<wr.heap.size/\∀i x,l[i]? = some x->wr.cell? ⟨b,o+i * 4,none⟩=some (.int .i64 x.k)/\wr.cell? ⟨b,o+i * 4+1,none⟩=some (.int .i64 x.t) ∧
     wr.cell? ⟨b,o+i * 4+2,none⟩=some (.int .i64 x.n)/\wr.cell? ⟨b,o+i * 4+3,none⟩=some (.int .i64 x.m) from by
      rcases hl'.2 with h | h
      ·omega
      ·exact h)
    obtain⟨c0,c1,c2,c3⟩:=hcl k x hx;(have hr:=fun W=>fright_calls x W);have HSz:Hid (w.heap.size<=wr.heap.size):=hB.size
    have HP:Hid (∀W v R,Stk W w.heap.size w.heap.size v R->w.heap.size<=W.heap.size->R.length<=4398046511104->Calls Tryz.prog 69 #[.pointer (some ⟨w.heap.size,0,none⟩),.int .i64 (k:Int),tokV x] W fun e w' => e=.returned (.tuple #[])/\∃v', Stk w' w.heap.size w.heap.size v' (turn x k R)/\Below w.heap.size W w'):=by
     intro W v R h1 h2 h3;refine(fpass_calls w.heap.size w.heap.size v R k x W h1 h2 h3).mono ?_;rintro e w' ⟨e1,v', e2,e3,_⟩;exact⟨e1,v', e2,e3.below (zzb _) (fun j hj=>(own_base h1.2.1 j hj).1) h2⟩
    have hl0:=hl.1;clear hcl hl' hl hx;rw[hdr] at hch;clear hdr;rw[checkL] at hch
    have HT:Hid ((turn x k R).length=if x.k=1 then R.length+1 else if x.k=2 then R.length - 1 else R.length):=by
     show _=_
     unfold turn
     split<;>(try split)<;>simp
    obtain⟨xk,xt,xn,xm⟩:=x;generalize rightT ⟨xk,xt,xn,xm⟩=p at *;simp only[tokV] at *;cases p
    ·have HD:Hid (check l=((k:Int),4)):=by show check l=_;rw[<-hch];simp
     clear hch;(go_wp2_with fail);refine(hr _).mono ?_;rintro e W1 ⟨rfl,hB1⟩;obtain⟨t0,t1,t2,t3,hB2⟩:=tok_kept hB1;have hB3:Below w.heap.size w W1:=hB.trans (hB2.mono hB.size);go_wp2;go_ret2;exact⟨by rw[HD.out];rfl,hB3⟩
    ·simp only[Bool.not_true,Bool.false_or] at hch
     by_cases k1:xk=1
     ·subst k1
      simp only[show ((1:Int)==2)=false from rfl,Bool.false_and,Bool.false_eq_true,if_false,if_true] at hch
      by_cases hd:R.length=32
      ·have HD:Hid (check l=((k:Int),8)):=by show check l=_;rw[<-hch,if_pos oo]
       (have HT2:Hid ((turn ⟨1,xt,xn,xm⟩ k R).length=33):=by show _=_;rw[HT.out];simp[hd]);clear hch;(go_wp2_with fail);refine(hr _).mono ?_;rintro e W1 ⟨rfl,hB1⟩;obtain⟨t0,t1,t2,t3,hB2⟩:=tok_kept hB1;have hS1:=hS.below hB2;have hB3:Below w.heap.size w W1:=hB.trans (hB2.mono hB.size);clear hB2 hB1 hS;(go_wp2_with fail);refine(HP.out _ _ _ hS1 hB3.size oo).mono ?_;rintro e W2 ⟨rfl,v', hS2,hB4⟩;have hB5:=hB3.trans hB4;obtain⟨-,s33b,-⟩:=hS2.cells;rw[HT2.out] at s33b;go_wp2;go_ret2;exact⟨by rw[HD.out];rfl,hB5⟩
      ·have HD:Hid (check l=checkL (l.drop (k+1)) (k+1) (R.length+1)):=by show check l=_;rw[<-hch,if_neg oo]
       (have HT2:Hid ((turn ⟨1,xt,xn,xm⟩ k R).length=R.length+1):=by show _=_;rw[HT.out];simp);exact k27
     ·by_cases k2:xk=2
      ·subst k2
       simp only[show ((2:Int)==2)=true from rfl,Bool.true_and,show ¬((2:Int)=1) from by decide,if_false,if_true] at hch
       by_cases hd:R.length=0
       ·have HD:Hid (check l=((k:Int),4)):=by show check l=_;rw[<-hch];simp[hd]
        rw[hd] at s33;clear hch;(go_wp2_with fail);refine(hr _).mono ?_;rintro e W1 ⟨rfl,hB1⟩;obtain⟨t0,t1,t2,t3,hB2⟩:=tok_kept hB1;have hS1:=hS.below hB2;have hB3:Below w.heap.size w W1:=hB.trans (hB2.mono hB.size)
        have s33b:W1.cell? ⟨w.heap.size,33,none⟩=some (.int .i64 0):=by
         obtain⟨-,q,-⟩:=hS1.cells;rw[hd] at q;exact q
        go_wp2;go_ret2;exact⟨by rw[HD.out];rfl,hB3⟩
       ·have HD:Hid (check l=checkL (l.drop (k+1)) (k+1) ((R.length - 1:Nat):Int)):=by show check l=_;rw[<-hch,if_neg (by simpa using hd),if_neg oo,show ((R.length - 1:Nat):Int)=(R.length:Int) - 1 from by omega]
        (have HT2:Hid ((turn ⟨2,xt,xn,xm⟩ k R).length=R.length - 1):=by show _=_;rw[HT.out];simp);(have ed:((R.length:Int)==0)=false:=by simpa using hd);clear hch;(go_wp2_with fail);refine(hr _).mono ?_;rintro e W1 ⟨rfl,hB1⟩;obtain⟨t0,t1,t2,t3,hB2⟩:=tok_kept hB1;have hS1:=hS.below hB2;have hB3:Below w.heap.size w W1:=hB.trans (hB2.mono hB.size);obtain⟨-,s33a,-⟩:=hS1.cells;clear hB2 hB1 hS;(go_wp2_with fail);refine(HP.out _ _ _ hS1 hB3.size oo).mono ?_;rintro e W2 ⟨rfl,v', hS2,hB4⟩;have hB5:=hB3.trans hB4;obtain⟨-,s33b,-⟩:=hS2.cells;rw[HT2.out] at s33b;go_wp2
        go_roundw
        case rel=>exact⟨k+1,v', _,oo,rfl,by rw[HT2.out];omega,hS2,by rw[HT2.out];exact HD.out.symm,hB5⟩
        case measure=>simp[intOf];omega
      ·have HD:Hid (check l=checkL (l.drop (k+1)) (k+1) (R.length:Int)):=by
        show check l=_
        rw[<-hch,if_neg (by simp[k2]),if_neg k1,if_neg k2,if_neg oo]
       (have HT2:Hid ((turn ⟨xk,xt,xn,xm⟩ k R).length=R.length):=by show _=_;rw[HT.out];simp[k1,k2]);(have e2:(xk==2)=false:=by simpa using k2);exact k27
   ·obtain rfl:k=len:=by omega
    rw[List.drop_eq_nil_of_le (Nat.le_of_eq hl.1),checkL] at hch
    by_cases hd:R.length=0
    ·rw[if_neg oo] at hch
     have HD:Hid (check l=((k:Int),0)):=hch.symm;rw[hd] at s33;clear hch hl hl';go_wp2;go_ret2;exact⟨by rw[HD.out];rfl,hB⟩
    ·rw[if_pos oo] at hch
     have HD:Hid (check l=((k:Int),3)):=hch.symm;(have hd1:(0:Int)<(R.length:Int):=by omega);clear hch hl hl';generalize R.length=n at *;go_wp2;go_ret2;exact⟨by rw[HD.out];rfl,hB⟩
theorem info23:(Tryz.prog.info? 58).map (fun i=>(i.zero,i.size,i.bytes))=some (some (.agg #[.int .i64 0,.int .i64 0,.int .i64 0,.int .i64 0]),4,32):=by kernel_rfl
def flat:List Tok->List Value
 | []=>[]
 | x::r=>.int .i64 x.k :: .int .i64 x.t :: .int .i64 x.n :: .int .i64 x.m::flat r
theorem flat_append (l m:List Tok):flat (l++m)=flat l++flat m:=by
 induction l with
 | nil=>rfl
 | cons x r ih=>simp[flat,ih]
theorem flat_length (l:List Tok):(flat l).length=l.length * 4:=by
 induction l with
 | nil=>rfl
 | cons x r ih=>simp[flat,ih];omega
theorem flat_one (l:List Tok):∀u∈flat l,u.oneCell' = true:=by
 induction l with
 | nil=>intro u hu;cases hu
 | cons x r ih=>
  intro u hu;simp only[flat,List.mem_cons] at hu;rcases hu with rfl | rfl | rfl | rfl | hu
  ·rfl
  ·rfl
  ·rfl
  ·rfl
  ·exact ih u hu
theorem flat_at (l:List Tok)(i:Nat)(x:Tok)(h:l[i]? = some x):(flat l)[i * 4]? = some (.int .i64 x.k)/\(flat l)[i * 4+1]? = some (.int .i64 x.t)/\(flat l)[i * 4+2]? = some (.int .i64 x.n)/\(flat l)[i * 4+3]? = some (.int .i64 x.m):=by
 induction l generalizing i with
 | nil=>simp at h
 | cons y r ih=>
  cases i with
  | zero=>
   (obtain rfl:y=x:=by simpa using h);exact⟨rfl,rfl,rfl,rfl⟩
  | succ i=>
   have:=ih i (by simpa using h)
   rw[show (i+1) * 4=i * 4+4 from by omega,show i * 4+4+1=i * 4+1+4 from by omega,show i * 4+4+2=i * 4+2+4 from by omega,show i * 4+4+3=i * 4+3+4 from by omega];exact this
theorem flat_cells {w:World}{b:Nat}(l:List Tok)(o:Nat)(h:∀i x,l[i]? = some x->w.cell? ⟨b,o+i * 4,none⟩=some (.int .i64 x.k)/\w.cell? ⟨b,o+i * 4+1,none⟩=some (.int .i64 x.t) ∧
  w.cell? ⟨b,o+i * 4+2,none⟩=some (.int .i64 x.n)/\w.cell? ⟨b,o+i * 4+3,none⟩=some (.int .i64 x.m)):∀j u,(flat l)[j]? = some u->w.cell? ⟨b,o+j,none⟩=some u:=by
 intro j u hj
 have hjl:j<l.length * 4:=by
  have:=(zzc.1 hj).1
  rwa [flat_length] at this
 obtain⟨x,hx⟩:∃x,l[j / 4]? = some x:=⟨_,zze oo⟩
 obtain⟨f0,f1,f2,f3⟩:=flat_at l (j / 4) x hx
 obtain⟨c0,c1,c2,c3⟩:=h (j / 4) x hx
 rcases (show j=j / 4 * 4\/j=j / 4 * 4+1\/j=j / 4 * 4+2\/j=j / 4 * 4+3 from by omega) with e | e | e | e
 ·rw[e] at hj ⊢
  rw[f0] at hj;exact c0.trans hj
 ·rw[e] at hj ⊢
  rw[f1] at hj;exact c1.trans hj
 ·rw[e] at hj ⊢
  rw[f2] at hj;exact c2.trans hj
 ·rw[e] at hj ⊢
  rw[f3] at hj;exact c3.trans hj
theorem add_none4 (b o i:Nat):(⟨b,o,none⟩:Addr).add i=⟨b,o+i,none⟩:=by unfold Addr.add;split<;>simp_all
theorem toks_of_owns {W:World}{base:Nat}{v:Value}{n:Nat}{l:List Tok}(h:W.ownsRow base 58 4 v n (flat l))(hv:v ≠ .slice none 0 0) :
  ∃g cap,v=.slice (some ⟨g,0,none⟩) n cap/\base<=g/\n<=cap/\cap<=maxLen/\Toks W (some ⟨g,0,none⟩) n l:=by
 obtain⟨hl,⟨h1,_⟩ | ⟨g,cap,cur,rfl,hb,hg,hc1,hc2,hc3,hc4⟩⟩:=h
 ·exact absurd h1 hv
 ·have hl' : l.length=n:=by rw[flat_length] at hl;omega
  refine⟨g,cap,rfl,hb,hc1,hc2,hl', .inr ⟨g,0,rfl,(zza.1 hg).1,fun i x hx=>?_⟩⟩;have hi:i<l.length:=(zzc.1 hx).1;obtain⟨f0,f1,f2,f3⟩:=flat_at l i x hx
  have key:∀j u,(flat l)[j]? = some u->W.cell? ⟨g,0+j,none⟩=some u:=by
   intro j u hj
   have hjl:j<n * 4:=by
    have:=(zzc.1 hj).1
    rw[flat_length] at this;omega
   rw[<-hc4,List.getElem?_take,if_pos hjl,Array.getElem?_toList] at hj;simp[World.cell?,hg,hj]
  exact⟨key _ _ f0,key _ _ f1,key _ _ f2,key _ _ f3⟩
theorem tok_append_own (base:Nat)(v:Value)(n:Nat)(xs:List Tok)(W:World)(hown:W.ownsRow base 58 4 v n (flat xs))(hv:v ≠ .slice none 0 0)(hbase:base<=W.heap.size)(a:Option Addr)(len cap:Nat)(bs:List Tok)(hr:Toks W a len bs)(hsz:n+len<=4398046511104) :
  ∃v' W1,(Builtin.append_ #[22,22] 22 #[v,.slice a len cap]).run Tryz.prog W=.ok v' W1/\W1.ownsRow base 58 4 v' (n+len) (flat (xs++bs))/\v' ≠ .slice none 0 0/\Below base W W1:=by
 obtain⟨i0,hi,hz0,hz1,hz2⟩:=info_parts info23
 have hown0:=hown
 obtain⟨hl0,⟨h1,_⟩ | ⟨g,c,cur,rfl,hbg,hg,hc1,hc2,hc3,hc4⟩⟩:=hown0
 ·exact absurd h1 hv
 ·rcases Nat.eq_zero_or_pos len with h0 | h0
  ·subst h0
   obtain rfl:bs=[]:=List.length_eq_zero_iff.1 hr.1
   have hs:Src Tryz.prog i0.size 22 (.slice a 0 cap) 0 [] W:=by
    cases a with
    | none=>exact Src.ofNil _ Tryz.underlying22 cap
    | some p=>exact Src.ofSlice _ Tryz.underlying22 p 0 cap [] (by simp) (by simp) (by simp)
   have h3:=run_append_room_src (P:=Tryz.prog) W 22 22 22 58 i0 Tryz.underlying22 hi g 0 n c _ 0 [] hs oo (by simp) (by simp);exact⟨_,_,h3,by rw[List.append_nil];exact hown,by simp,zzd base W⟩
  ·obtain⟨hl,h1 | ⟨b,o,rfl,hlt,hc⟩⟩:=hr
   ·omega
   ·obtain⟨v', W1,hrun,r1,r2,r3⟩:=run_append_own (P:=Tryz.prog) W base 22 22 58 i0 _ 4 32 Tryz.underlying22 hi hz0 hz1 hz2 rfl (by decide) _ n _ hown ⟨b,o,none⟩ len cap (flat bs) (by rw[flat_length,hl])
     (fun j u hj=>by rw[add_none4];exact flat_cells bs o hc j u hj) (flat_one bs) (by unfold maxLen;omega) oo hbase
    rw[<-flat_append] at r1;exact⟨_,_,hrun,r1,fun e=>by have:=r3.1 e;simp at this,(zzd base W).grown r2 hbase (fun k e=>by simp[Value.ownBlock] at e;omega)⟩
theorem wp_tok_run {o:Oper}{a:Act}{w:World}{K:Act->World->Prop}{Q:Exit->Act->World->Prop}(s x:Operand)(t:TypeId)(ho:o.op=.call { callee:=.builtin .append,args:=#[s,x],argTypes:=#[t,t] })
  (v u v' : Value) (w' : World) (hs:a.eval s=v) (hx:a.eval x=u) (hr:(Builtin.append_ #[t,t] o.type #[v,u]).run Tryz.prog w=.ok v' w') (h:K (a.put o.dst v') w'):o.wp Tryz.prog a w K Q:=by
 unfold Oper.wp execOp
 simp only[ho,resolve,invoke,builtin,Sem.run_bind,Sem.run_pure,Result.andThen_ok,List.map_toArray,List.map_cons,List.map_nil,hs,hx,hr]
 exact h
theorem wpList_tok_run {ops:Array Oper}{rest:List Oper}{o:Oper}{a:Act}{w:World}{Q:Exit->Act->World->Prop}(hgd:o.guard=none)(s x:Operand)(t:TypeId)(ho:o.op=.call { callee:=.builtin .append,args:=#[s,x],argTypes:=#[t,t] })
  (v u v' : Value) (w' : World) (hs:a.eval s=v) (hx:a.eval x=u) (hr:(Builtin.append_ #[t,t] o.type #[v,u]).run Tryz.prog w=.ok v' w') (h:wpList Tryz.prog ops Q rest (a.put o.dst v') w'):wpList Tryz.prog ops Q (o::rest) a w :=
 wpList_plain hgd fun _ hK=>wp_tok_run s x t ho v u v' w' hs hx hr (hK _ _ h)
def both (s t:Int):Int:=((s.toNat &&& (t % 8).toNat:Nat):Int)
def withM (s t:Int):Int:=if rightM s=true then both s t else 0
theorem wrap_small (x:Int)(h0:0<=x)(h1:x<1000):IntKind.i64.wrap x=x:=by
 simp[IntKind.wrap,IntKind.bits,IntKind.signed]
 omega
theorem ofInt_u64 (n:Nat)(h:n<1000):(BitVec.ofInt 64 (n:Int)).toNat=n:=by
 rw[BitVec.toNat_ofInt]
 have:((2 ^ 64:Nat):Int)=18446744073709551616:=rfl
 rw[this]
 omega
theorem ofInt_low (s:Nat)(hs:s<8)(t:Int):s &&& (BitVec.ofInt 64 t).toNat=s &&& (t % 8).toNat:=by
 have h1:s=s &&& 7:=by
  rw[Nat.and_two_pow_sub_one_eq_mod s 3];omega
 rw[h1,Nat.and_assoc,Nat.and_assoc]
 have h2:∀n,7 &&& n=n % 8:=fun n=>by rw[Nat.and_comm];exact Nat.and_two_pow_sub_one_eq_mod n 3
 rw[h2,h2,BitVec.toNat_ofInt]
 have h3:((t % ((2 ^ 64:Nat):Int)).toNat) % 8=(t % 8).toNat % 8:=by
  have:((2 ^ 64:Nat):Int)=18446744073709551616:=rfl
  rw[this];omega
 rw[h3]
theorem and_both (s t:Int)(h0:0<=s)(h1:s<=4):bits BinOp.and IntKind.i64 s t=both s t:=by
 obtain⟨n,rfl⟩:=Int.eq_ofNat_of_zero_le h0
 show IntKind.i64.wrap ((BitVec.ofInt 64 (n:Int) &&& BitVec.ofInt 64 t).toNat:Int)=_
 have hn:n<=4:=by omega
 rw[BitVec.toNat_and,ofInt_u64 n oo,ofInt_low n oo t]
 have hle:n &&& (t % 8).toNat<=n:=Nat.and_le_left
 rw[wrap_small _ oo oo]
 rfl
theorem k71{p:Prop}(h:p:=by
  go_enter Tryz.func159,Tryz.ntmps159;(go_wp2_with fail);refine(h1 _).mono ?_;rintro e w' ⟨rfl,rfl⟩;go_wp2;go_ret;exact⟨rfl,rfl⟩
  ):p:=h
theorem withM_calls (s t:Int)(w:World):Calls Tryz.prog 159 #[.int .i64 s,.int .i64 t] w fun e w' => e=.returned (.int .i64 (withM s t))/\w' = w:=by
 have h1:=fun W=>fmark_calls s W
 unfold withM
 by_cases hs:rightM s=true
 ·have hs' : 0<=s/\s<=4:=by unfold rightM at hs;simpa using hs
  have hb:=and_both s t hs'.1 hs'.2;rw[if_pos hs];rw[hs] at h1;generalize both s t=x at *;exact k71
 ·have hs' : rightM s=false:=by simpa using hs
  rw[if_neg hs];rw[hs'] at h1;exact k71
theorem SchAt.cells {w:World}{B g c ng nc:Nat}{ks:List KindD}{gs:List Grp}{ts:List (DataW Unit)}(h:SchAt w B g c ng nc ks gs ts):∀X,Below w.heap.size w X->X.cell? ⟨B,0,none⟩=some (.slice (some ⟨g,0,none⟩) ks.length c)/\X.cell? ⟨B,1,none⟩=some (.slice (some ⟨ng,0,none⟩) gs.length nc):=fun X hX=>by
 have hc:=fun j=>cell_of_row X B j _ _ _ ((hX.block _ (zza.1 h.sch).1).trans h.sch)
 exact⟨hc 0,hc 1⟩
theorem ismade_calls {B g c ng nc:Nat}{ks:List KindD}{gs:List Grp}{ts:List (DataW Unit)}(w:World)(h:SchAt w B g c ng nc ks gs ts)(h0:0<ks.length):Calls Tryz.prog 32 #[.pointer (some ⟨B,0,none⟩)] w fun e w' => e=.returned (.bool true)/\w' = w:=by
 obtain⟨c0,_⟩:=h.cells w (zzd _ _)
 have hd:decide ((0:Int)<(ks.length:Int))=true:=by simp;omega
 have hl:(ks.length:Int)<=16:=by have:=h.cap.2.2;omega
 clear h
 go_enter Tryz.func32,Tryz.ntmps32
 go_wp2
 go_ret
 exact⟨rfl,rfl⟩
theorem k64{p:Prop}(h:p:=by
  go_enter Tryz.func60,Tryz.ntmps60;(go_wp2_with fail);refine HM.mono ?_;rintro e w' ⟨rfl,rfl⟩;go_wp2;go_ret;exact⟨rfl,rfl⟩
  ):p:=h
theorem typeof_calls {B g c ng nc:Nat}{ks:List KindD}{gs:List Grp}{ts:List (DataW Unit)}(w:World)(h:SchAt w B g c ng nc ks gs ts)(h0:0<ks.length)(t:Int):Calls Tryz.prog 60 #[.pointer (some ⟨B,0,none⟩),.int .i64 t] w fun e w' => e=.returned (.pointer (if 1<=t/\t<ks.length then some ⟨g,t.toNat * 10,none⟩ else none))/\w' = w:=by
 have HM:=ismade_calls w h h0
 obtain⟨c0,_⟩:=h.cells w (zzd _ _)
 have hl:(ks.length:Int)<=16:=by have:=h.cap.2.2;omega
 clear h
 by_cases d1:t<=0
 ·rw[if_neg oo]
  have hd:decide (t<=0)=true:=by simpa using d1
  exact k64
 ·have hd:decide (t<=0)=false:=by simpa using d1
  by_cases d2:(ks.length:Int)<=t
  ·rw[if_neg oo]
   (have hd2:decide ((ks.length:Int)<=t)=true:=by simpa using d2);exact k64
  ·rw[if_pos oo]
   (have hd2:decide ((ks.length:Int)<=t)=false:=by simpa using d2);obtain⟨n,rfl⟩:∃n:Nat,t=(n:Int):=⟨t.toNat,oo⟩;rw[Int.toNat_natCast];(have hlt:(n:Int)<(ks.length:Int):=by omega);(have hn0:(0:Int)<=(n:Int):=by omega);exact k64
theorem kindat_out {B g c ng nc:Nat}{ks:List KindD}{gs:List Grp}{ts:List (DataW Unit)}(w:World)(h:SchAt w B g c ng nc ks gs ts)(h0:0<ks.length)(lv:Value):Calls Tryz.prog 47 #[.pointer (some ⟨B,0,none⟩),lv,.int .i64 (-1)] w fun e w' => e=.returned (.pointer (some ⟨g,0,none⟩))/\Below w.heap.size w w' := by
 obtain⟨c0,_⟩:=h.cells w (zzd _ _)
 have hl:(ks.length:Int)<=16:=by have:=h.cap.2.2;omega
 have hpos:(0:Int)<(ks.length:Int):=by omega
 have HR:Hid (Below w.heap.size w w):=zzd _ _
 clear h
 go_enter Tryz.func47,Tryz.ntmps47
 go_wp2
 go_ret
 exact⟨rfl,HR.out⟩
theorem kindat_in {B g c ng nc:Nat}{ks:List KindD}{gs:List Grp}{ts:List (DataW Unit)}(w:World)(h:SchAt w B g c ng nc ks gs ts)(a:Option Addr)(len cap:Nat)(l:List Tok)(hl:Toks w a len l)(hsz:len<=2048)(i:Nat)(x:Tok)(hx:l[i]? = some x)(hx0:0<=x.t)(hx1:x.t<ks.length):Calls Tryz.prog 47 #[.pointer (some ⟨B,0,none⟩),.slice a len cap,.int .i64 (i:Int)] w fun e w' => e=.returned (.pointer (some ⟨g,x.t.toNat * 10,none⟩))/\Below w.heap.size w w' := by
 obtain⟨c0,_⟩:=h.cells w (zzd _ _)
 have hlk:(ks.length:Int)<=16:=by have:=h.cap.2.2;omega
 have hil:i<len:=by have:=(zzc.1 hx).1;have:=hl.1;omega
 obtain⟨b,o,y,rfl,_,hy,hW⟩:=hl.token hil
 rw[hx] at hy
 cases hy
 obtain⟨c1,c2,c3,c4⟩:=hW w (zzd _ _)
 have hii:(i:Int)<(len:Int):=by omega
 have hi0:(0:Int)<=(i:Int):=by omega
 have hli:(len:Int)<=2048:=by omega
 have hne:((i:Int) == -1)=false:=by rw[beq_eq_false_iff_ne];omega
 obtain⟨n,hn⟩:∃n:Nat,x.t=(n:Int):=⟨x.t.toNat,oo⟩
 rw[hn] at c2 hx0 hx1 ⊢
 rw[Int.toNat_natCast]
 clear h hl hW hx
 go_enter Tryz.func47,Tryz.ntmps47
 go_wp2
 go_quiet (fail)
 go_wp2
 go_ret
 exact⟨rfl,⟨rfl,rfl,rfl,zzb _,fun _ _=>rfl⟩⟩
def takesR (s:SpecD)(x:Tok):Bool:=(withM x.m s.marks==x.m)&&(x.n != 10||s.lines)
theorem k58{p:Prop}(h:p:=by
  refine takeG 21 (some 26) hS ?_;refine takeG 22 (some 27) hS ?_;refine takeG 23 (some 4) hS ?_;refine wpAnyH_done kr ?_ _;go_wp2;go_ret;exact⟨by rw[HT.out];rfl,HB.out⟩
  ):p:=h
theorem takesrune_calls (g o:Nat)(s:SpecD)(x:Tok)(w:World)(h:SpecAt w g o s)(hg:g<w.heap.size):Calls Tryz.prog 132 #[.pointer (some ⟨g,o,none⟩),tokV x] w fun e w' => e=.returned (.bool (takesR s x))/\Below w.heap.size w w' := by
 obtain⟨V,hV⟩:∃V,V=w.alloc (.cells #[.int .i64 x.k,.int .i64 x.t,.int .i64 x.n,.int .i64 x.m] 58):=⟨_,rfl⟩
 have hBV:Below w.heap.size w V:=by rw[hV];exact(zzd _ w).alloc (zzb _) _
 have m0:V.heap[w.heap.size]? = some (.cells #[.int .i64 x.k,.int .i64 x.t,.int .i64 x.n,.int .i64 x.m] 58 (0,0)):=by rw[hV];exact World.alloc_heap_new w _
 have hc:=fun j=>cell_of_row V w.heap.size j _ _ _ m0
 obtain⟨_,_,_,s3,_,_,s6⟩:=h.same (hBV.block g hg)
 have HWI:Hid (∀W:World,Calls Tryz.prog 159 #[.int .i64 x.m,.int .i64 s.marks] W fun e w' => e=.returned (.int .i64 (withM x.m s.marks))/\w' = W):=fun W=>withM_calls _ _ W
 have k2:V.cell? ⟨w.heap.size,2,none⟩=some (.int .i64 x.n):=hc 2
 have k3:V.cell? ⟨w.heap.size,3,none⟩=some (.int .i64 x.m):=hc 3
 have HB:Hid (Below w.heap.size w V.drew):=hBV.drew
 have HV:Hid (w.alloc (.cells #[.int .i64 x.k,.int .i64 x.t,.int .i64 x.n,.int .i64 x.m] 58)=V):=hV.symm
 obtain⟨R,hR⟩:∃R,takesR s x=R:=⟨_,rfl⟩
 have hR' := hR
 unfold takesR at hR'
 unfold tokV
 rw[hR]
 generalize withM x.m s.marks=wi at *
 generalize s.marks=mk at *
 generalize s.lines=ln at *
 clear hR h hg hBV m0 hc hV
 obtain⟨xk,xt,xn,xm⟩:=x
 dsimp only at *
 by_cases d1:wi=xm
 ·have hd1:(wi==xm)=true:=by simpa using d1
  by_cases d2:xn=10
  ·have hd2:(xn==10)=true:=by simpa using d2
   (have HT:Hid (R=ln):=by show R=ln;rw[<-hR', hd1];simp[d2]);subst d2;clear hR' d1;go_enter Tryz.func132,Tryz.ntmps132;(go_wp2_with fail);rw[HV.out];refine wp_region_held_drew (S:=fun X=>X.cell? ⟨w.heap.size,2,none⟩=some (.int .i64 10)/\X.cell? ⟨w.heap.size,3,none⟩=some (.int .i64 xm)/\X.cell? ⟨g,o+3,none⟩=some (.int .i64 mk)/\X.cell? ⟨g,o+6,none⟩=some (.bool ln)) hmx ⟨k2,k3,s3,s6⟩ (fun hS=>?_);refine takeG 0 (some 5) hS ?_;refine takeG 1 (some 6) hS ?_ (hy:=by intro w hSw;obtain⟨k2,k3,k4,k5⟩:=hSw;go_simp;with_reducible rfl);refine takeG 2 (some 7) hS ?_;refine takeG 3 (some 8) hS ?_;refine takeG 4 (some 9) hS ?_;refine takeG 5 (some 10) hS ?_;refine takeG 6 (some 11) hS ?_ (hy:=by intro w hSw;obtain⟨k2,k3,k4,k5⟩:=hSw;go_simp;with_reducible rfl);refine takeG 8 (some 13) hS ?_;refine takeG 9 (some 14) hS ?_ (hy:=by intro w hSw;obtain⟨k2,k3,k4,k5⟩:=hSw;go_simp;with_reducible rfl);refine callD 7 kr rfl (fun K hK=>?_);rw[if_pos (by rfl)];go_simp;refine(HWI.out _).mono ?_;rintro e Y ⟨rfl,rfl⟩;refine hK.out _ _ hS (fun _=>?_);clear hK K
   try simp only[lay4]
   refine takeG 10 (some 15) hS ?_ (hy:=by intro w hSw;go_simp;(try simp only[hd1,hd2]);with_reducible rfl);refine takeG 11 (some 16) hS ?_;refine takeG 12 (some 17) hS ?_;refine takeG 13 (some 18) hS ?_ (hy:=by intro w hSw;obtain⟨k2,k3,k4,k5⟩:=hSw;go_simp;with_reducible rfl);refine takeG 14 (some 19) hS ?_ (hy:=by intro w hSw;go_simp;(try simp only[hd1,hd2]);with_reducible rfl);refine takeG 15 (some 20) hS ?_;refine takeG 16 (some 21) hS ?_;refine takeG 17 (some 22) hS ?_;refine takeG 18 (some 23) hS ?_;refine takeG 19 (some 24) hS ?_;refine takeG 20 (some 25) hS ?_ (hy:=by intro w hSw;obtain⟨k2,k3,k4,k5⟩:=hSw;go_simp;with_reducible rfl);exact k58
  ·have hd2:(xn==10)=false:=by simpa using d2
   (have hd3:(xn != 10)=true:=by simp[bne,hd2]);(have HT:Hid (R=true):=by show R=true;rw[<-hR', hd1];simp[bne,hd2]);clear hR' d1 d2;go_enter Tryz.func132,Tryz.ntmps132;(go_wp2_with fail);rw[HV.out];refine wp_region_held_drew (S:=fun X=>X.cell? ⟨w.heap.size,2,none⟩=some (.int .i64 xn)/\X.cell? ⟨w.heap.size,3,none⟩=some (.int .i64 xm)/\X.cell? ⟨g,o+3,none⟩=some (.int .i64 mk)/\X.cell? ⟨g,o+6,none⟩=some (.bool ln)) hmx ⟨k2,k3,s3,s6⟩ (fun hS=>?_);refine takeG 0 (some 5) hS ?_;refine takeG 1 (some 6) hS ?_ (hy:=by intro w hSw;obtain⟨k2,k3,k4,k5⟩:=hSw;go_simp;with_reducible rfl);refine takeG 2 (some 7) hS ?_;refine takeG 3 (some 8) hS ?_;refine takeG 4 (some 9) hS ?_;refine takeG 5 (some 10) hS ?_;refine takeG 6 (some 11) hS ?_ (hy:=by intro w hSw;obtain⟨k2,k3,k4,k5⟩:=hSw;go_simp;with_reducible rfl);refine takeG 8 (some 13) hS ?_;refine takeG 9 (some 14) hS ?_ (hy:=by intro w hSw;obtain⟨k2,k3,k4,k5⟩:=hSw;go_simp;with_reducible rfl);refine callD 7 kr rfl (fun K hK=>?_);rw[if_pos (by rfl)];go_simp;refine(HWI.out _).mono ?_;rintro e Y ⟨rfl,rfl⟩;refine hK.out _ _ hS (fun _=>?_);clear hK K
   try simp only[lay4]
   refine takeG 10 (some 15) hS ?_ (hy:=by intro w hSw;go_simp;(try simp only[hd1,hd2,hd3,Bool.not_false]);with_reducible rfl);refine takeG 11 (some 16) hS ?_;refine takeG 12 (some 17) hS ?_;refine takeG 13 (some 18) hS ?_ (hy:=by intro w hSw;obtain⟨k2,k3,k4,k5⟩:=hSw;go_simp;with_reducible rfl);refine takeG 14 (some 19) hS ?_ (hy:=by intro w hSw;go_simp;(try simp only[hd1,hd2,hd3,Bool.not_false]);with_reducible rfl);refine takeG 15 (some 20) hS ?_;refine takeD 16 (some 21) (v:=undef) rfl rfl kr kr kr (fun _ _ _ h=>h) (Or.inr ⟨by rfl,rfl⟩) hS ?_
   try simp only[lay4]
   refine takeD 17 (some 22) (v:=undef) rfl rfl kr kr kr (fun _ _ _ h=>h) (Or.inr ⟨by rfl,rfl⟩) hS ?_
   try simp only[lay4]
   refine takeD 18 (some 23) (v:=undef) rfl rfl kr kr kr (fun _ _ _ h=>h) (Or.inr ⟨by rfl,rfl⟩) hS ?_
   try simp only[lay4]
   refine takeD 19 (some 24) (v:=undef) rfl rfl kr kr kr (fun _ _ _ h=>h) (Or.inr ⟨by rfl,rfl⟩) hS ?_
   try simp only[lay4]
   refine takeD 20 (some 25) (v:=undef) rfl rfl kr kr kr (fun _ _ _ h=>h) (Or.inr ⟨by rfl,rfl⟩) hS ?_
   try simp only[lay4]
   exact k58
 ·have hd1:(wi==xm)=false:=by simpa using d1
  (have HT:Hid (R=false):=by show R=false;rw[<-hR', hd1];rfl);clear hR' d1;go_enter Tryz.func132,Tryz.ntmps132;(go_wp2_with fail);rw[HV.out];refine wp_region_held_drew (S:=fun X=>X.cell? ⟨w.heap.size,2,none⟩=some (.int .i64 xn)/\X.cell? ⟨w.heap.size,3,none⟩=some (.int .i64 xm)/\X.cell? ⟨g,o+3,none⟩=some (.int .i64 mk)/\X.cell? ⟨g,o+6,none⟩=some (.bool ln)) hmx ⟨k2,k3,s3,s6⟩ (fun hS=>?_);refine takeG 0 (some 5) hS ?_;refine takeG 1 (some 6) hS ?_ (hy:=by intro w hSw;obtain⟨k2,k3,k4,k5⟩:=hSw;go_simp;with_reducible rfl);refine takeG 2 (some 7) hS ?_;refine takeG 3 (some 8) hS ?_;refine takeG 4 (some 9) hS ?_;refine takeG 5 (some 10) hS ?_;refine takeG 6 (some 11) hS ?_ (hy:=by intro w hSw;obtain⟨k2,k3,k4,k5⟩:=hSw;go_simp;with_reducible rfl);refine takeG 8 (some 13) hS ?_;refine takeG 9 (some 14) hS ?_ (hy:=by intro w hSw;obtain⟨k2,k3,k4,k5⟩:=hSw;go_simp;with_reducible rfl);refine callD 7 kr rfl (fun K hK=>?_);rw[if_pos (by rfl)];go_simp;refine(HWI.out _).mono ?_;rintro e Y ⟨rfl,rfl⟩;refine hK.out _ _ hS (fun _=>?_);clear hK K
  try simp only[lay4]
  refine takeG 10 (some 15) hS ?_ (hy:=by intro w hSw;go_simp;(try simp only[hd1]);with_reducible rfl);refine takeG 11 (some 16) hS ?_;refine takeD 12 (some 17) (v:=undef) rfl rfl kr kr kr (fun _ _ _ h=>h) (Or.inr ⟨by rfl,rfl⟩) hS ?_
  try simp only[lay4]
  refine takeD 13 (some 18) (v:=undef) rfl rfl kr kr kr (fun _ _ _ h=>h) (Or.inr ⟨by rfl,rfl⟩) hS ?_
  try simp only[lay4]
  refine takeD 14 (some 19) (v:=undef) rfl rfl kr kr kr (fun _ _ _ h=>h) (Or.inr ⟨by rfl,rfl⟩) hS ?_
  try simp only[lay4]
  refine takeD 15 (some 20) (v:=undef) rfl rfl kr kr kr (fun _ _ _ h=>h) (Or.inr ⟨by rfl,rfl⟩) hS ?_
  try simp only[lay4]
  refine takeD 16 (some 21) (v:=undef) rfl rfl kr kr kr (fun _ _ _ h=>h) (Or.inr ⟨by rfl,rfl⟩) hS ?_
  try simp only[lay4]
  refine takeD 17 (some 22) (v:=undef) rfl rfl kr kr kr (fun _ _ _ h=>h) (Or.inr ⟨by rfl,rfl⟩) hS ?_
  try simp only[lay4]
  refine takeD 18 (some 23) (v:=undef) rfl rfl kr kr kr (fun _ _ _ h=>h) (Or.inr ⟨by rfl,rfl⟩) hS ?_
  try simp only[lay4]
  refine takeD 19 (some 24) (v:=undef) rfl rfl kr kr kr (fun _ _ _ h=>h) (Or.inr ⟨by rfl,rfl⟩) hS ?_
  try simp only[lay4]
  refine takeD 20 (some 25) (v:=undef) rfl rfl kr kr kr (fun _ _ _ h=>h) (Or.inr ⟨by rfl,rfl⟩) hS ?_
  try simp only[lay4]
  refine takeD 21 (some 26) (v:=undef) rfl rfl kr kr kr (fun _ _ _ h=>h) (Or.inr ⟨by rfl,rfl⟩) hS ?_
  try simp only[lay4]
  refine takeG 22 (some 27) hS ?_;refine takeG 23 (some 4) hS ?_;refine wpAnyH_done kr ?_ _;go_wp2;go_ret;exact⟨by rw[HT.out];rfl,HB.out⟩
def mayBeB (s:SpecD)(x:Tok):Bool:=(s.leaf==(x.k==3))&&decide (s.least<=x.n)&&decide (x.n<=s.most)
theorem k62{p:Prop}(h:p:=by
  go_enter Tryz.func133,Tryz.ntmps133;go_wp2
  go_quiet (fail)
  go_wp2;go_ret;exact⟨rfl,HB.out.trans ⟨rfl,rfl,rfl,zzb _,fun _ _=>rfl⟩⟩
  ):p:=h
theorem k59{p:Prop}(h:p:=by
  rw[e1,e2];go_enter Tryz.func133,Tryz.ntmps133;go_wp2
  go_quiet (fail)
  go_wp2;go_ret;exact⟨rfl,HB.out.trans ⟨rfl,rfl,rfl,zzb _,fun _ _=>rfl⟩⟩
  ):p:=h
theorem maybe_calls (g o:Nat)(s:SpecD)(x:Tok)(w:World)(h:SpecAt w g o s)(hg:g<w.heap.size):Calls Tryz.prog 133 #[.pointer (some ⟨g,o,none⟩),tokV x] w fun e w' => e=.returned (.bool (mayBeB s x))/\Below w.heap.size w w' := by
 have hBV:Below w.heap.size w (w.alloc (.cells #[.int .i64 x.k,.int .i64 x.t,.int .i64 x.n,.int .i64 x.m] 58)):=(zzd _ w).alloc (zzb _) _
 obtain⟨_,_,s2,_,s4,s5,_⟩:=h.same (hBV.block g hg)
 have HB:Hid (Below w.heap.size w (w.alloc (.cells #[.int .i64 x.k,.int .i64 x.t,.int .i64 x.n,.int .i64 x.m] 58))):=hBV
 unfold mayBeB tokV
 clear hBV h hg
 generalize s.leaf=lf at *
 generalize s.least=le at *
 generalize s.most=mo at *
 obtain⟨xk,xt,xn,xm⟩:=x
 dsimp only at *
 obtain⟨q,hq⟩:∃q,(lf==(xk==3))=q:=⟨_,rfl⟩
 rw[hq]
 cases q with
 | false=>
  exact k62
 | true=>
  by_cases d1:le<=xn
  ·have e1:decide (le<=xn)=true:=by simpa using d1
   by_cases d2:xn<=mo
   ·have e2:decide (xn<=mo)=true:=by simpa using d2
    exact k59
   ·have e2:decide (xn<=mo)=false:=by simpa using d2
    exact k59
  ·have e1:decide (le<=xn)=false:=by simpa using d1
   rw[e1];exact k62
end Go.Proofs.YtjkebndkeamijaaGreatDoor
