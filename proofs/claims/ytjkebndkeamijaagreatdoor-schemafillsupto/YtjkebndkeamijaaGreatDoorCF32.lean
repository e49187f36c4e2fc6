/-
  PROVED HERE: what the texts DFFOpen, DFFDeep, DFDoc, DFPair, DFEnd, DFFPartner, DFFPart say.
-/
import Derived.Test.YtjkebndkeamijaaGreatDoorCF31
import Derived.Deep.WholeRow
set_option maxRecDepth 100000
set_option maxHeartbeats 4000000
namespace Go.Proofs.YtjkebndkeamijaaGreatDoor
open Go.RowKit
def Lies (a:Option Addr)(len cap:Nat):Prop:=len<=cap/\cap<=9223372036854775807/\(a=none->cap=0)/\(∀x,a=some x->0<cap->x.spot=none)
def zeros:Array Value:=#[.int .i64 0,.int .i64 0,.int .i64 0,.int .i64 0,.int .i64 0,.int .i64 0,.int .i64 0,.int .i64 0,.int .i64 0,.int .i64 0,.int .i64 0,.int .i64 0,.int .i64 0,.int .i64 0,.int .i64 0,.int .i64 0,.int .i64 0,.int .i64 0,.int .i64 0,.int .i64 0,.int .i64 0,.int .i64 0,.int .i64 0,.int .i64 0,.int .i64 0,.int .i64 0,.int .i64 0,.int .i64 0,.int .i64 0,.int .i64 0,.int .i64 0,.int .i64 0,.slice none 0 0,.int .i64 0]
theorem StkCells.one {v:Value}{R:List Int}{cs:Array Value}(h:StkCells v R cs){a:Option Addr}{n c:Nat}(hv:v=.slice a n c):cs.all (·.oneCell')=true:=by
 obtain⟨h0,h1,h2,h3,h4⟩:=h
 rw[Array.all_eq_true]
 intro i hi
 by_cases e:i<32
 ·obtain⟨z,hz⟩:=h2 i e
  rw[Array.getElem?_eq_getElem hi] at hz;rw[zzo hz]
  rfl
 ·by_cases e2:i=32
  ·subst e2
   rw[Array.getElem?_eq_getElem hi] at h3;rw[zzo h3,hv]
   rfl
  ·obtain rfl:i=33:=by omega
   rw[Array.getElem?_eq_getElem hi] at h4;rw[zzo h4]
   rfl
theorem info47:(Tryz.prog.info? 111).map (·.size)=some 34:=by kernel_rfl
theorem wpList_put_row {P:Program}{ops:Array Oper}{rest:List Oper}{o:Oper}{a:Act}{w:World}{Q:Exit->Act->World->Prop}(hgd:o.guard=none)(ty:TypeId)(x y:Operand)(ho:o.op=.store ty x y)
  (g:Nat) (cells:Array Value) (hx:a.eval x=.pointer (some ⟨g,0,none⟩)) (hy:a.eval y=.agg cells) (t:TypeId) (old:Array Value) (hg:w.heap[g]? = some (.cells old t (0,0))) (hi:(P.info? ty).map (·.size)=some cells.size)
  (hold:old.size=cells.size) (h1:cells.all (·.oneCell')=true) (h:wpList P ops Q rest (a.put o.dst undef) (w.setRow g cells)):wpList P ops Q (o::rest) a w :=
 wpList_plain hgd fun _ hK=>wp_store_row ty x y ho g cells hx hy t old hg hi hold h1 (hK _ _ h)
theorem own_mono {w:World}{b b' : Nat}{e:TypeId}{v:Value}{n:Nat}{xs:List Value}(h:w.ownsRow b e 1 v n xs)(hb:b' <= b):w.ownsRow b' e 1 v n xs:=by
 obtain⟨h1,h2 | ⟨g,cap,cur,h3,h4,h5⟩⟩:=h
 ·exact⟨h1,.inl h2⟩
 ·exact⟨h1,.inr ⟨g,cap,cur,h3,oo,h5⟩⟩
theorem open_leaves {w wr:World}{v:Value}{R:List Int}(hS:Stk wr (w.heap.size+1) (w.heap.size+1) v R)(hB:Below (w.heap.size+1) (w.alloc (.cells zeros 111)) wr) :
  ∃cs,wr.heap[w.heap.size+1]? = some (.cells cs 111 (0,0))/\wr.heap[w.heap.size]? = some (.cells zeros 111 (0,0))/\cs.size=34/\StkCells v R cs/\cs.all (·.oneCell')=true ∧
   (wr.setRow w.heap.size cs).ownsRow w.heap.size 3 1 v (R.length - 32) ((R.drop 32).map (Value.int .i64))/\Below w.heap.size w (wr.setRow w.heap.size cs)/\(wr.setRow w.heap.size cs).heap[w.heap.size]? = some (.cells cs 111 (0,0))/\(wr.setRow w.heap.size cs).heap[w.heap.size+1]? = some (.cells cs 111 (0,0)):=by
 obtain⟨_,h1,cs,h2,h3⟩:=hS
 have hz:wr.heap[w.heap.size]? = some (.cells zeros 111 (0,0)):=(hB.block w.heap.size oo).trans (heap_alloc_new w _)
 obtain⟨a,c,hv⟩:=own_slice h1
 refine⟨cs,h2,hz,h3.1,h3,h3.one hv,?_,?_,?_,?_⟩
 ·have h4:=own_mono h1 (show w.heap.size<=w.heap.size+1 by omega)
  obtain⟨k1,k2 | ⟨g,cap,cur,rfl,hb,hg,k3⟩⟩:=h1
  ·exact⟨k1,.inl k2⟩
  ·refine⟨k1,.inr ⟨g,cap,cur,rfl,oo,?_,k3⟩⟩
   rw[setRow_other _ _ _ _ oo];exact hg
 ·have h5:Below w.heap.size w wr:=((zzd _ w).alloc (zzb _) _).trans (hB.mono oo)
  exact⟨h5.os,h5.tape,h5.output,by simpa using h5.size,fun k hk=>by rw[setRow_other _ _ _ _ oo];exact h5.block k hk⟩
 ·exact setRow_heap _ _ _ _ _ _ hz
 ·rw[setRow_other _ _ _ _ oo]
  exact h2
def Opened (w:World)(R:List Int)(e:Ending)(w' : World):Prop:=∃cs v,e=.returned (.agg cs)/\StkCells v R cs/\w'.ownsRow w.heap.size 3 1 v (R.length - 32) ((R.drop 32).map (Value.int .i64))/\Below w.heap.size w w'
theorem k30{p:Prop}(h:p:=by
  (go_wp2_with (first | refine wpList_load_row rfl 111 _ rfl (w.heap.size+1) rfl 111 cs (0,0) _ g1 Tryz.underlying111 rfl (by rw[hz];exact info47) ?_ | refine wpList_put_row rfl 111 _ _ rfl w.heap.size cs rfl rfl 111 _ g2 (by rw[hz];exact info47) (by rw[hz];rfl) h1 ?_));refine bodyPost_ret (results_cell_row rfl _ _ w.heap.size 111 cs (0,0) _ rfl g3 Tryz.underlying111 rfl (by rw[hz];exact info47)) rfl ?_;exact⟨cs,_,rfl,hc,ho,hbel⟩
  ):p:=h
theorem fopen_none (a:Option Addr)(len cap:Nat)(p:Int)(w:World)(hp:p<0\/(len:Int)<p):Calls Tryz.prog 77 #[.slice a len cap,.int .i64 p] w (Opened w []):=by
 have hS:Stk ((w.alloc (.cells zeros 111)).alloc (.cells zeros 111)) (w.heap.size+1) (w.heap.size+1) (.slice none 0 0) []:=by
  have:=stk_new (w.alloc (.cells zeros 111))
  simp only[World.size_alloc] at this;exact this
 have hB:Below (w.heap.size+1) (w.alloc (.cells zeros 111)) ((w.alloc (.cells zeros 111)).alloc (.cells zeros 111)):=(zzd _ _).alloc (by simp) _
 obtain⟨cs,g1,g2,hz,hc,h1,ho,hbel,g3,g4⟩:=open_leaves hS hB
 clear hS hB
 have hd:p<0\/(decide (p<0)=false/\(len:Int)<p):=by
  by_cases h:p<0
  ·exact .inl h
  ·exact .inr ⟨by simpa using h,oo⟩
 unfold zeros at *
 rcases hd with hd | ⟨hd,hd2⟩
 all_goals
  go_enter Tryz.func77,Tryz.ntmps77;exact k30
theorem k09{p:Prop}(h:p:=by
  go_enter Tryz.func77,Tryz.ntmps77;go_wp2
  go_loopw [21] (fun i w' => ∃(k:Nat) (v:Value) (R:List Int),k<=0/\i=.int .i64 (k:Int)/\R.length<=k/\Stk w' (w.heap.size+1) (w.heap.size+1) v R/\openL ((l.take 0).drop k) k R=T/\Below (w.heap.size+1) (w.alloc (.cells zeros 111)) w') (fun i _=>0 - (intOf i).toNat)
  case atStart=>exact⟨0,_,[],zzn _,rfl,by simp,hS0.out,HO.out,hB0.out⟩
  case round=>
   obtain⟨k,v,R,hk,rfl,hR,hS,hT,hB⟩:=hrel;have HZ:=hB.size;rw[World.size_alloc] at HZ
   by_cases hlt:k<0
   ·omega
   ·obtain rfl:k=0:=by omega
    rw[List.drop_eq_nil_of_le (by rw[List.length_take];omega),openL] at hT;obtain⟨cs,g1,g2,hz,hc,h1,ho,hbel,g3,g4⟩:=open_leaves hS hB;rw[hT] at hc ho;clear hS hB hT HO;unfold zeros at *;(go_wp2_with (first | refine wpList_load_row rfl 111 _ rfl (w.heap.size+1) rfl 111 cs (0,0) _ g1 Tryz.underlying111 rfl (by rw[hz];exact info47) ?_ | refine wpList_put_row rfl 111 _ _ rfl w.heap.size cs rfl rfl 111 _ g2 (by rw[hz];exact info47) (by rw[hz];rfl) h1 ?_));refine bodyPost_ret (results_cell_row rfl _ _ w.heap.size 111 cs (0,0) _ rfl g3 Tryz.underlying111 rfl (by rw[hz];exact info47)) rfl ?_;exact⟨cs,_,rfl,hc,ho,hbel⟩
  ):p:=h
theorem fopen_some (a:Option Addr)(len cap:Nat)(l:List Tok)(n:Nat)(w:World)(hl:Toks w a len l)(hsz:len<=4398046511104)(hlie:Lies a len cap)(hn:n<=len):Calls Tryz.prog 77 #[.slice a len cap,.int .i64 (n:Int)] w (Opened w (opened l n)):=by
 obtain⟨hc1,hc2,ha,hspot⟩:=hlie
 have hS0:Hid (Stk ((w.alloc (.cells zeros 111)).alloc (.cells zeros 111)) (w.heap.size+1) (w.heap.size+1) (.slice none 0 0) []):=by
  have:=stk_new (w.alloc (.cells zeros 111))
  simp only[World.size_alloc] at this;exact this
 have hB0:Hid (Below (w.heap.size+1) (w.alloc (.cells zeros 111)) ((w.alloc (.cells zeros 111)).alloc (.cells zeros 111))):=(zzd _ _).alloc (by simp) _
 have HO:Hid (openL ((l.take n).drop 0) 0 []=opened l n):=by
  show _=_
  unfold opened;rw[if_pos (by rw[hl.1];omega),Int.toNat_natCast,List.drop_zero]
 have e0:decide ((n:Int)<0)=false:=by simp
 have e1:decide (len<n)=false:=by simpa using hn
 generalize hTT:opened l n=T at *
 clear hTT
 rcases Nat.eq_zero_or_pos cap with h0 | h0
 ·subst h0
  obtain rfl:len=0:=by omega
  obtain rfl:n=0:=by omega
  cases a with
  | none=>
   exact k09
  | some x=>
   exact k09
 ·cases a with
  | none=>exact absurd (ha rfl) oo
  | some x=>
   obtain⟨b,o,sp⟩:=x;obtain rfl:sp=none:=hspot _ rfl h0;go_enter Tryz.func77,Tryz.ntmps77;go_wp2
   go_loopw [21] (fun i w' => ∃(k:Nat) (v:Value) (R:List Int),k<=n/\i=.int .i64 (k:Int)/\R.length<=k/\Stk w' (w.heap.size+1) (w.heap.size+1) v R/\openL ((l.take n).drop k) k R=T/\Below (w.heap.size+1) (w.alloc (.cells zeros 111)) w') (fun i _=>n - (intOf i).toNat)
   case atStart=>exact⟨0,_,[],zzn _,rfl,by simp,hS0.out,HO.out,hB0.out⟩
   case round=>
    obtain⟨k,v,R,hk,rfl,hR,hS,hT,hB⟩:=hrel;have HZ:=hB.size;rw[World.size_alloc] at HZ
    by_cases hlt:k<n
    ·obtain⟨x,hx,hst⟩:=openL_step (l:=l) (N:=n) hlt (by rw[hl.1];exact hn) R
     obtain⟨b', o', x', eb,hbl,hx', hc⟩:=hl.token (k:=k) oo;cases eb;rw[hx] at hx';obtain rfl:=zzo hx';have hBw:Below w.heap.size w wr:=((zzd _ w).alloc (zzb _) _).trans (hB.mono oo);obtain⟨c0,c1,c2,c3⟩:=hc wr hBw;rw[hst] at hT;have HT:Hid (openL ((l.take n).drop (k+1)) (k+1) (turn x k R)=T):=hT
     have HP:Hid (∀o,Calls Tryz.prog 69 #[.pointer (some ⟨w.heap.size+1,0,none⟩),.int .i64 (k:Int),tokV x] (wr.alloc o) fun e w' => e=.returned (.tuple #[])/\∃v', Stk w' (w.heap.size+1) (w.heap.size+1) v' (turn x k R)/\Below (w.heap.size+1) (wr.alloc o) w'):=by
      intro o;have hSo:=hS.alloc o;refine(fpass_calls (w.heap.size+1) (w.heap.size+1) v R k x _ hSo (by simp;omega) oo).mono ?_;rintro e w' ⟨e1,v', e2,e3,_⟩;exact⟨e1,v', e2,e3.below (zzb _) (fun j hj=>(own_base hSo.2.1 j hj).1) (by simp;omega)⟩
     have HTL:Hid ((turn x k R).length<=k+1):=by
      show (turn x k R).length<=k+1
      unfold turn
      split<;>(try split)<;>first | omega | (simp;omega)
     clear hT hst hx hc hl hS HO hBw;generalize turn x k R=R' at *;obtain⟨xk,xt,xn,xm⟩:=x;simp only[tokV] at *;(go_wp2_with fail);refine(HP.out _).mono ?_;rintro e W2 ⟨rfl,v', hS2,hB4⟩;have hB5:=(hB.alloc oo _).trans hB4;go_wp2
     go_roundw
     case rel=>exact⟨k+1,v', R', by omega,rfl,HTL.out,hS2,HT.out,hB5⟩
     case measure=>simp[intOf];omega
    ·obtain rfl:k=n:=by omega
     rw[List.drop_eq_nil_of_le (by rw[List.length_take];omega),openL] at hT;obtain⟨cs,g1,g2,hz,hc,h1,ho,hbel,g3,g4⟩:=open_leaves hS hB;rw[hT] at hc ho;clear hS hB hT HO;unfold zeros at *;exact k30
theorem fopen_calls (a:Option Addr)(len cap:Nat)(l:List Tok)(p:Int)(w:World)(hl:Toks w a len l)(hsz:len<=4398046511104)(hlie:Lies a len cap):Calls Tryz.prog 77 #[.slice a len cap,.int .i64 p] w (Opened w (opened l p)):=by
 by_cases hp:p<0\/(len:Int)<p
 ·rw[show opened l p=[] from by
   unfold opened;rw[hl.1]
   split
   ·rw[show p.toNat=0 from by omega]
    rfl
   ·rfl]
  exact fopen_none a len cap p w hp
 ·obtain⟨n,rfl⟩:=Int.eq_ofNat_of_zero_le (show 0<=p by omega)
  exact fopen_some a len cap l n w hl hsz hlie oo
theorem stk_laid {w W:World}{cs:Array Value}{v:Value}{R:List Int}(hc:StkCells v R cs)(ho:W.ownsRow w.heap.size 3 1 v (R.length - 32) ((R.drop 32).map (Value.int .i64)))(hB:Below w.heap.size w W):Stk (W.alloc (.cells cs 111)) w.heap.size W.heap.size v R :=
 ⟨hB.size,ho.alloc _,cs,heap_alloc_new W _,hc⟩
theorem faround_calls (a:Option Addr)(len cap:Nat)(l:List Tok)(p:Int)(w:World)(hl:Toks w a len l)(hsz:len<=4398046511104)(hlie:Lies a len cap) :
  Calls Tryz.prog 40 #[.slice a len cap,.int .i64 p] w fun e w' => e=.returned (.int .i64 (around l p))/\Below w.heap.size w w' := by
 have h1:=fopen_calls a len cap l p w hl hsz hlie
 have hq:=opened_length l p
 rw[hl.1] at hq
 unfold around
 generalize opened l p=R at *
 obtain⟨y,hy⟩:∃y,R.getLast?.getD (-1)=y:=⟨_,rfl⟩
 rw[hy]
 go_enter Tryz.func40,Tryz.ntmps40
 go_wp2_with fail
 refine h1.mono ?_
 rintro e W ⟨cs,v,rfl,hc,ho,hB⟩
 have ht:=ftop_calls _ _ _ _ _ (stk_laid hc ho hB) oo
 obtain⟨a', c', hv⟩:=own_slice ho
 have h1c:=hc.one hv
 have hz:=hc.1
 have hB2:=hB.alloc hB.size (.cells cs 111)
 rw[hy] at ht
 clear hc ho h1 hy
 go_wp2_with (first | (refine wpList_put_row rfl 111 _ _ rfl W.heap.size cs rfl rfl 111 _ (heap_alloc_new W _) (by rw[hz];exact info47) (by rw[hz];rfl) h1c ?_;rw[World.setRow_alloc_new]) | (go_at_call 78;refine ht.mono ?_;rintro e W2 ⟨rfl,q,rfl⟩))
 go_ret
 exact⟨rfl,below_drewN hB2 _⟩
end Go.Proofs.YtjkebndkeamijaaGreatDoor
namespace Go.Proofs.YtjkebndkeamijaaGreatDoor
theorem openL_append (l m:List Tok)(i:Nat)(s:List Int):openL (l++m) i s=openL m (i+l.length) (openL l i s):=by
 induction l generalizing i s with
 | nil=>simp[openL]
 | cons x r ih=>
  rw[List.cons_append,openL,openL,ih,List.length_cons,show i+1+r.length=i+(r.length+1) from by omega]
theorem opened_nat (l:List Tok)(k:Nat)(h:k<=l.length):opened l k=openL (l.take k) 0 []:=by
 unfold opened
 rw[if_pos oo,Int.toNat_natCast]
theorem opened_zero (l:List Tok):opened l 0=[]:=by
 have:=opened_nat l 0 (zzn _)
 simpa [openL] using this
theorem opened_succ (l:List Tok)(k:Nat)(x:Tok)(h:l[k]? = some x):opened l ((k+1:Nat):Int)=turn x k (opened l k):=by
 have hk:k<l.length:=(zzc.1 h).1
 rw[opened_nat l (k+1) hk,opened_nat l k oo,List.take_add_one,h,openL_append]
 rw[List.length_take,show 0+min k l.length=k from by omega]
 rfl
def deeper (x:Tok)(d:Int):Int:=if x.k=1 then d+1 else if x.k=2 then d - 1 else d
def wrong (x:Tok)(d:Int):Bool := !rightT x||(x.k==2&&d==0)
def goes:List Tok->Int->Option Int
 | [],d=>some d
 | x::r,d=>if wrong x d=true then none else if 32<deeper x d then none else goes r (deeper x d)
theorem checkL_cons (x:Tok)(r:List Tok)(i:Nat)(d:Int):checkL (x::r) i d=if wrong x d=true then ((i:Int),4) else if 32<deeper x d then ((i:Int),8) else checkL r (i+1) (deeper x d):=rfl
theorem deeper_nonneg {x:Tok}{d:Int}(h:0<=d)(hw:wrong x d=false):0<=deeper x d:=by
 unfold deeper
 unfold wrong at hw
 split
 ·omega
 ·split
  ·rename_i h2
   simp[h2] at hw;omega
  ·exact h
theorem checkL_goes (l:List Tok)(i:Nat)(d:Int)(h:0<=d):((checkL l i d).2=0↔goes l d=some 0)/\(goes l d=some 0->checkL l i d=(((i+l.length:Nat):Int),0)):=by
 induction l generalizing i d with
 | nil=>
  rw[checkL,goes]
  split
  ·exact⟨⟨fun h=>by simp at h,fun h=>by simp at h;omega⟩,fun h=>by simp at h;omega⟩
  ·exact⟨⟨fun _=>by simp;omega,fun _=>rfl⟩,fun _=>by simp⟩
 | cons x r ih=>
  rw[checkL_cons,goes];cases hw:wrong x d with
  | true=>simp
  | false=>
   simp only[Bool.false_eq_true,if_false]
   split
   ·simp
   ·have:=ih (i+1) (deeper x d) (deeper_nonneg h hw)
    refine⟨this.1,fun e=>?_⟩;rw[this.2 e,List.length_cons,show i+1+r.length=i+(r.length+1) from by omega]
theorem check_ok (l:List Tok):(check l).2=0↔l.length<=2048/\goes l 0=some 0:=by
 unfold check
 split
 ·constructor
  ·intro h;exact absurd h (by decide)
  ·intro h;omega
 ·rw[(checkL_goes l 0 0 oo).1]
  constructor
  ·intro h;exact⟨oo,h⟩
  ·intro h;exact h.2
def deepest:List Tok->Int->Int
 | [],d=>d
 | x::r,d=>max d (deepest r (deeper x d))
theorem deepest_ge (l:List Tok)(d:Int):d<=deepest l d:=by
 cases l with
 | nil=>exact Int.le_refl _
 | cons x r=>rw[deepest];omega
theorem goes_cons {x:Tok}{r:List Tok}{d e:Int}(h:goes (x::r) d=some e):wrong x d=false/\deeper x d<=32/\goes r (deeper x d)=some e:=by
 rw[goes] at h
 cases hw:wrong x d with
 | true=>rw[hw] at h;simp at h
 | false=>
  rw[hw] at h;simp only[Bool.false_eq_true,if_false] at h
  split at h
  ·cases h
  ·exact⟨rfl,oo,h⟩
def mx (l:List Tok):Nat->Int
 | 0=>0
 | k+1=>max (mx l k) ((opened l k).length:Int)
theorem turn_length {x:Tok}{i:Nat}{s:List Int}(hw:wrong x s.length=false):((turn x i s).length:Int)=deeper x s.length:=by
 unfold turn deeper
 split
 ·simp
 ·split
  ·rename_i h2
   unfold wrong at hw;simp[h2] at hw
   have:s.length≠0:=by
    intro e;exact hw.2 (List.length_eq_zero_iff.1 e)
   rw[List.length_dropLast];omega
  ·rfl
theorem mx_step (l:List Tok)(k:Nat)(hk:k<=l.length)(h:goes l 0=some 0):max (mx l k) (deepest (l.drop k) (opened l k).length)=deepest l 0/\goes (l.drop k) (opened l k).length=some 0:=by
 induction k with
 | zero=>
  have h0:=opened_zero l;rw[show ((0:Nat):Int)=0 from rfl,h0,mx]
  have:=deepest_ge l 0
  simp only[List.drop_zero,List.length_nil];exact⟨by rw[show ((0:Nat):Int)=0 from rfl];omega,h⟩
 | succ k ih=>
  obtain⟨i1,i2⟩:=ih oo;obtain⟨x,hx,hd⟩:=drop_getD (l:=l) (k:=k) oo;rw[hd] at i1 i2;obtain⟨hw,_,hg⟩:=goes_cons i2;rw[opened_succ l k x hx,turn_length hw,mx];rw[deepest] at i1;exact⟨oo,hg⟩
theorem partner_open (l:List Tok)(i:Nat)(hi:i<l.length)(hk:kindAt l i=1):partner l i=seek l i (i+1) (l.length - (i+1)):=by
 unfold partner
 rw[if_neg oo,Int.toNat_natCast,if_neg oo,if_pos hk]
theorem ends (l:List Tok)(h:goes l 0=some 0):opened l l.length=[]:=by
 obtain⟨_,i2⟩:=mx_step l l.length (zzb _) h
 rw[List.drop_length,goes] at i2
 have:=zzo i2
 exact List.length_eq_zero_iff.1 oo
def Since (l:List Tok)(i k:Nat)(S:List Int):Prop :=
 (k=i/\S=[])\/(i<k/\∃S', S=(i:Int)::S' /\ (∀x∈S', (i:Int)<x)/\opened l k=opened l i++S)
theorem since_around {l:List Tok}{i k:Nat}{S:List Int}(h:Since l i k S)(hk:i<k):around l k=S.getLast?.getD (-1)/\(around l k=i↔S=[(i:Int)]):=by
 rcases h with ⟨rfl,_⟩ | ⟨_,S', rfl,h1,h2⟩
 ·omega
 ·have h3:around l k=((i:Int)::S').getLast?.getD (-1):=by
   unfold around;rw[h2,List.getLast?_append];cases h4:((i:Int)::S').getLast? with
   | none=>simp at h4
   | some y=>simp
  refine⟨h3,?_⟩;rw[h3]
  constructor
  ·intro h4
   cases S' with
   | nil=>rfl
   | cons y r=>
    (have h5:((i:Int)::y::r).getLast? = (y::r).getLast? := by simp[List.getLast?_cons]);rw[h5] at h4;cases h6:(y::r).getLast? with
    | none=>simp at h6
    | some z=>
     rw[h6] at h4
     have:=h1 z (List.mem_of_getLast? h6)
     simp at h4;omega
  ·intro h4
   rw[h4]
   rfl
theorem turn_one {x:Tok}{k:Nat}{S:List Int}(h:x.k=1):turn x k S=S++[(k:Int)]:=by unfold turn;rw[if_pos h]
theorem turn_two {x:Tok}{k:Nat}{S:List Int}(h:x.k=2):turn x k S=S.dropLast:=by unfold turn;rw[if_neg oo,if_pos h]
theorem turn_else {x:Tok}{k:Nat}{S:List Int}(h1:x.k≠1)(h2:x.k≠2):turn x k S=S:=by unfold turn;rw[if_neg h1,if_neg h2]
theorem since_step {l:List Tok}{i k:Nat}{S:List Int}{x:Tok}(h:Since l i k S)(hik:i<=k)(hx:l[k]? = some x)(hi:kindAt l i=1) :
  (turn x k S=[]/\i<k/\x.k=2/\S=[(i:Int)])\/(turn x k S≠[]/\Since l i (k+1) (turn x k S)/\(i<k->¬(x.k=2/\S=[(i:Int)]))):=by
 have hs:=opened_succ l k x hx
 rcases h with ⟨rfl,rfl⟩ | ⟨h0,S', rfl,h1,h2⟩
 ·rw[kindAt_some hx] at hi
  rw[turn_one hi] at hs ⊢;refine .inr ⟨by simp,.inr ⟨oo,[],rfl,by simp,hs⟩,fun h=>by omega⟩
 ·by_cases k1:x.k=1
  ·rw[turn_one k1] at hs ⊢
   refine .inr ⟨by simp,.inr ⟨oo,S' ++ [(k:Int)],rfl,fun y hy=>?_,?_⟩,fun _ h=>by omega⟩
   ·rcases List.mem_append.1 hy with hy | hy
    ·exact h1 y hy
    ·obtain rfl:y=(k:Int):=by simpa using hy
     omega
   ·rw[hs,h2]
    simp
  ·by_cases k2:x.k=2
   ·rw[turn_two k2] at hs ⊢
    cases S' with
    | nil=>exact .inl ⟨rfl,h0,k2,rfl⟩
    | cons y r=>
     refine .inr ⟨by simp,.inr ⟨oo,(y::r).dropLast,rfl,fun z hz=>h1 z (List.dropLast_subset _ hz),?_⟩,fun _ h=>by simp at h⟩;rw[hs,h2,List.dropLast_append_of_ne_nil (by simp)]
   ·rw[turn_else k1 k2] at hs ⊢
    exact .inr ⟨by simp,.inr ⟨oo,S', rfl,h1,by rw[hs,h2]⟩,fun _ h=>k2 h.1⟩
def Seeks (l:List Tok)(i k:Nat)(P:Int):Prop:=(k=i/\P=seek l i (i+1) (l.length - (i+1)))\/(i<k/\P=seek l i k (l.length - k))
theorem end_step {l:List Tok}{i k:Nat}{S:List Int}{x:Tok}{P:Int}(h:Since l i k S)(hik:i<=k)(hk:k<l.length)(hx:l[k]? = some x)(hi:kindAt l i=1)(hP:Seeks l i k P) :
  (turn x k S=[]/\P=k)\/(turn x k S≠[]/\Since l i (k+1) (turn x k S)/\Seeks l i (k+1) P):=by
 have hst:=since_step h hik hx hi
 rcases hP with ⟨rfl,hP⟩ | ⟨hlt,hP⟩
 ·rcases hst with ⟨_,h2,_⟩ | ⟨h1,h2,_⟩
  ·omega
  ·exact .inr ⟨h1,h2,.inr ⟨oo,hP⟩⟩
 ·have ha:=(since_around h hlt).2
  rw[show l.length - k=(l.length - (k+1))+1 from by omega,seek,kindAt_some hx] at hP;rcases hst with ⟨h1,_,h3,h4⟩ | ⟨h1,h2,h3⟩
  ·rw[if_pos ⟨h3,ha.2 h4⟩] at hP
   exact .inl ⟨h1,hP⟩
  ·rw[if_neg (fun h=>h3 hlt ⟨h.1,ha.1 h.2⟩)] at hP
   exact .inr ⟨h1,h2,.inr ⟨oo,hP⟩⟩
theorem end_none {l:List Tok}{i:Nat}{P:Int}(hi:i<l.length)(hP:Seeks l i l.length P):P = -1:=by
 rcases hP with ⟨h,_⟩ | ⟨_,h⟩
 ·omega
 ·rw[Nat.sub_self,seek] at h
  exact h
def Gathers (l:List Tok)(i:Int)(k:Nat)(out K:List Int):Prop:=(i=k/\out=[]/\K=kidsL l i (k+1) (l.length - (k+1)) [])\/(i<k/\K=kidsL l i k (l.length - k) out)
def kept (i:Int)(x:Tok)(k:Nat)(S out:List Int):List Int:=if S.getLast?.getD (-1)=i/\(x.k=0\/x.k=1\/x.k=3) then out++[(k:Int)] else out
theorem kids_step {l:List Tok}{i k:Nat}{S out K:List Int}{x:Tok}(h:Since l i k S)(hik:i<=k)(hk:k<l.length)(hx:l[k]? = some x)(hi:kindAt l i=1)(hP:Gathers l i k out K) :
  (turn x k S=[]/\K=kept i x k S out)\/(turn x k S≠[]/\Since l i (k+1) (turn x k S)/\Gathers l i (k+1) (kept i x k S out) K):=by
 have hst:=since_step h hik hx hi
 rcases hP with ⟨e,rfl,hP⟩ | ⟨hlt,hP⟩
 ·obtain rfl:i=k:=by omega
  rcases hst with ⟨_,h2,_⟩ | ⟨h1,h2,_⟩
  ·omega
  ·refine .inr ⟨h1,h2,.inr ⟨oo,?_⟩⟩
   rcases h with ⟨_,rfl⟩ | ⟨h,_⟩
   ·unfold kept
    rw[if_neg (by simp),hP]
   ·omega
 ·have hlt' : i<k:=by omega
  obtain⟨ha1,ha⟩:=since_around h hlt'
  have hkp:kept i x k S out=if x.k≠2/\0<=x.k/\x.k<=3/\around l k=i then out++[(k:Int)] else out:=by
   unfold kept;rw[<-ha1]
   by_cases c:around l k=i/\(x.k=0\/x.k=1\/x.k=3)
   ·rw[if_pos c,if_pos oo]
   ·rw[if_neg c,if_neg oo]
  rw[show l.length - k=(l.length - (k+1))+1 from by omega,kidsL,kindAt_some hx,<-hkp] at hP;rcases hst with ⟨h1,_,h3,h4⟩ | ⟨h1,h2,h3⟩
  ·rw[if_pos ⟨h3,ha.2 h4,oo⟩] at hP
   refine .inl ⟨h1,?_⟩;rw[hP,hkp,if_neg oo]
  ·rw[if_neg (fun h=>h3 hlt' ⟨h.1,ha.1 h.2.1⟩)] at hP
   exact .inr ⟨h1,h2,.inr ⟨oo,hP⟩⟩
theorem kids_none {l:List Tok}{i:Int}{out K:List Int}(hi:i<l.length)(hP:Gathers l i l.length out K):K=out:=by
 rcases hP with ⟨h,_⟩ | ⟨_,h⟩
 ·omega
 ·rw[Nat.sub_self,kidsL] at h
  exact h
theorem kids_out {l:List Tok}{k:Nat}{out K:List Int}{x:Tok}(hk:k<l.length)(hx:l[k]? = some x)(hP:Gathers l (-1) k out K):Gathers l (-1) (k+1) (kept (-1) x k (opened l k) out) K:=by
 rcases hP with ⟨e,_⟩ | ⟨_,hP⟩
 ·omega
 ·refine .inr ⟨oo,?_⟩
  have hkp:kept (-1) x k (opened l k) out=if x.k≠2/\0<=x.k/\x.k<=3/\around l k = -1 then out++[(k:Int)] else out:=by
   unfold kept;rw[show (opened l k).getLast?.getD (-1)=around l k from rfl]
   by_cases c:around l k = -1/\(x.k=0\/x.k=1\/x.k=3)
   ·rw[if_pos c,if_pos oo]
   ·rw[if_neg c,if_neg oo]
  rw[show l.length - k=(l.length - (k+1))+1 from by omega,kidsL,kindAt_some hx,<-hkp,if_neg oo] at hP;exact hP
end Go.Proofs.YtjkebndkeamijaaGreatDoor
namespace Go.Proofs.YtjkebndkeamijaaGreatDoor
open Go.RowKit
theorem turn_length_le (x:Tok)(k:Nat)(R:List Int):(turn x k R).length<=R.length+1:=by
 unfold turn
 split<;>(try split)<;>first | omega | (simp;done) | (simp;omega)
theorem fend_calls (a:Option Addr)(len cap:Nat)(l:List Tok)(i:Nat)(w:World)(hl:Toks w a len l)(hsz:len<=4398046511104)(hi:i<len)(hk1:kindAt l i=1) :
  Calls Tryz.prog 160 #[.slice a len cap,.int .i64 (i:Int)] w fun e w' => e=.returned (.int .i64 (partner l i))/\Below w.heap.size w w' := by
 have hL:=hl.1
 have HP0:Hid (Seeks l i i (partner l i)):=.inl ⟨rfl,partner_open l i oo hk1⟩
 have HS0:Hid (Since l i i []):=.inl ⟨rfl,rfl⟩
 have HN:Hid (Stk (w.alloc (.cells zeros 111)) w.heap.size w.heap.size (.slice none 0 0) []):=stk_new w
 have HB0:Hid (∀o,Below w.heap.size w (w.alloc o)):=fun o=>(zzd _ w).alloc (zzb _) o
 have HK1:Hid (kindAt l i=1):=hk1
 clear hk1
 generalize partner l i=P at *
 go_enter Tryz.func160,Tryz.ntmps160
 go_wp2
 go_loopw [6] (fun u w' => ∃(k:Nat) (v:Value) (R:List Int),k<=len/\i<=k/\u=.int .i64 (k:Int)/\R.length<=k/\Stk w' w.heap.size w.heap.size v R/\Since l i k R/\Seeks l i k P/\Below w.heap.size w w') (fun u _=>len - (intOf u).toNat)
 case atStart=>exact⟨i,_,[],oo,oo,rfl,by simp,HN.out,HS0.out,HP0.out,HB0.out _⟩
 case round=>
  obtain⟨k,v,R,hk,hik,rfl,hR,hS,hSi,hSe,hB⟩:=hrel;clear HP0 HS0 HN HB0
  by_cases hlt:k<len
  ·obtain⟨b,o,x,rfl,hbl,hx,hc⟩:=hl.token hlt
   obtain⟨c0,c1,c2,c3⟩:=hc wr hB
   have HP:Hid (Calls Tryz.prog 69 #[.pointer (some ⟨w.heap.size,0,none⟩),.int .i64 (k:Int),tokV x] wr fun e w' => e=.returned (.tuple #[])/\∃v', Stk w' w.heap.size w.heap.size v' (turn x k R)/\Below w.heap.size wr w'):=by
    refine(fpass_calls w.heap.size w.heap.size v R k x wr hS hB.size oo).mono ?_;rintro e w' ⟨e1,v', e2,e3,_⟩;exact⟨e1,v', e2,e3.below (zzb _) (fun j hj=>(own_base hS.2.1 j hj).1) hB.size⟩
   have HL:=turn_length_le x k R;have hst:=end_step hSi hik oo hx HK1.out hSe;clear hc hl hSi hSe hS hx;generalize turn x k R=R' at *;obtain⟨xk,xt,xn,xm⟩:=x;simp only[tokV] at *;rcases hst with ⟨rfl,hP⟩ | ⟨h1,h2,h3⟩
   ·have HE:Hid (P=k):=hP
    clear hP;(go_wp2_with fail);refine HP.out.mono ?_;rintro e W2 ⟨rfl,v', hS2,hB4⟩;have hB5:=hB.trans hB4;obtain⟨-,s33,-⟩:=hS2.cells;simp only[List.length_nil] at s33;clear hS2;go_wp2;go_ret;exact⟨by rw[HE.out];rfl,hB5⟩
   ·have HE1:Hid (Since l i (k+1) R'):=h2
    have HE2:Hid (Seeks l i (k+1) P):=h3;(have ne:((R'.length:Int)==0)=false:=by simpa using h1);clear h1 h2 h3;(go_wp2_with fail);refine HP.out.mono ?_;rintro e W2 ⟨rfl,v', hS2,hB4⟩;have hB5:=hB.trans hB4;obtain⟨-,s33,-⟩:=hS2.cells;have HS2:Hid (Stk W2 w.heap.size w.heap.size v' R'):=hS2;clear hS2;go_wp2
    go_roundw
    case rel=>exact⟨k+1,v', R', by omega,oo,rfl,oo,HS2.out,HE1.out,HE2.out,hB5⟩
    case measure=>simp[intOf];omega
  ·obtain rfl:k=len:=by omega
   have HE:Hid (P = -1):=end_none (l:=l) (i:=i) oo (by rw[hL];exact hSe);clear hSi hSe hS hl;go_wp2;go_ret;exact⟨by rw[HE.out];rfl,hB⟩
theorem k123{p:Prop}(h:p:=by
  go_enter Tryz.func135,Tryz.ntmps135;go_wp2;go_ret;exact⟨rfl,zzd _ _⟩
  ):p:=h
theorem fpartner_calls (a:Option Addr)(len cap:Nat)(l:List Tok)(i:Int)(w:World)(hl:Toks w a len l)(hsz:len<=4398046511104)(hlie:Lies a len cap) :
  Calls Tryz.prog 135 #[.slice a len cap,.int .i64 i] w fun e w' => e=.returned (.int .i64 (partner l i))/\Below w.heap.size w w' := by
 have hp:partner l i=if i<0\/(len:Int)<=i then -1 else if kindAt l i.toNat=2 then around l i else if kindAt l i.toNat=1 then seek l i (i.toNat+1) (len - (i.toNat+1)) else -1:=by unfold partner;rw[hl.1]
 by_cases h0:i<0
 ·rw[hp,if_pos (.inl h0)]
  exact k123
 have e0:decide (i<0)=false:=by simpa using h0
 by_cases h1:(len:Int)<=i
 ·rw[hp,if_pos (.inr h1)]
  exact k123
 obtain⟨n,rfl⟩:=Int.eq_ofNat_of_zero_le (show 0<=i by omega)
 have hn:n<len:=by omega
 have hE:=fun h1 W (hW:Below w.heap.size w W)=>fend_calls a len cap l n W (hl.below hW) hsz hn h1
 have hA:=fun W (hW:Below w.heap.size w W)=>faround_calls a len cap l (n:Int) W (hl.below hW) hsz hlie
 obtain⟨b,o,rfl,hbl,hc⟩:=hl.kindAt hn
 have hc0:=hc w (zzd _ _)
 rw[if_neg oo,Int.toNat_natCast] at hp
 have e1:decide ((len:Int)<=(n:Int))=false:=by simp;omega
 by_cases k2:kindAt l n=2
 ·rw[if_pos k2] at hp
  rw[k2] at hc0;rw[hp];clear hE;generalize around l (n:Int)=y at *;go_enter Tryz.func135,Tryz.ntmps135;(go_wp2_with fail);refine(hA _ (zzd _ _)).mono ?_;rintro e W1 ⟨rfl,hB⟩;go_wp2;go_ret;exact⟨rfl,hB⟩
 by_cases k1:kindAt l n=1
 ·rw[k1] at hc0
  have hE' := hE k1;clear hE hp hA;generalize partner l (n:Int)=y at *;go_enter Tryz.func135,Tryz.ntmps135;(go_wp2_with fail);refine(hE' _ (zzd _ _)).mono ?_;rintro e W1 ⟨rfl,hB⟩;go_wp2;go_ret;exact⟨rfl,hB⟩
 ·rw[if_neg k2,if_neg k1] at hp
  rw[hp];clear hE hA;generalize kindAt l n=z at *;(have e1:(z==1)=false:=by simpa using k1);(have e2:(z==2)=false:=by simpa using k2);exact k123
theorem k129{p:Prop}(h:p:=by
  go_enter Tryz.func80,Tryz.ntmps80;go_wp2;go_ret;exact⟨rfl,rfl⟩
  ):p:=h
theorem fisopen_calls (a:Option Addr)(len cap:Nat)(l:List Tok)(i:Int)(w:World)(hl:Toks w a len l) :
  Calls Tryz.prog 80 #[.slice a len cap,.int .i64 i] w fun e w' => e=.returned (.bool (decide (0<=i/\i<len/\kindAt l i.toNat=1)))/\w' = w:=by
 by_cases h0:0<=i
 ·by_cases h1:i<len
  ·obtain⟨n,rfl⟩:=Int.eq_ofNat_of_zero_le h0
   obtain⟨b,o,rfl,hbl,hc⟩:=hl.kindAt (k:=n) oo;have hc0:=hc w (zzd _ _);rw[show decide (0<=(n:Int)/\(n:Int)<len/\kindAt l (n:Int).toNat=1)=(kindAt l n==1) from by rw[Bool.eq_iff_iff];simp;omega];clear hc;generalize kindAt l n=z at *;exact k129
  ·rw[show decide (0<=i/\i<len/\kindAt l i.toNat=1)=false from by simp;omega]
   (have e1:decide (i<(len:Int))=false:=by simpa using h1);exact k129
 ·rw[show decide (0<=i/\i<len/\kindAt l i.toNat=1)=false from by simp;omega]
  have e1:decide (0<=i)=false:=by simpa using h0
  exact k129
def part (x:Tok):Bool:=x.k==0||(x.k==1||x.k==3)
theorem k99{p:Prop}(h:p:=by
  go_enter Tryz.func81,Tryz.ntmps81;go_wp2;go_ret;exact⟨rfl,(zzd _ _).alloc (zzb _) _⟩
  ):p:=h
theorem fispart_calls (x:Tok)(w:World):Calls Tryz.prog 81 #[tokV x] w fun e w' => e=.returned (.bool (part x))/\Below w.heap.size w w' := by
 obtain⟨k,t,n,m⟩:=x
 unfold part tokV
 simp only
 by_cases k0:k=0
 ·subst k0
  exact k99
 have e0:(k==0)=false:=by simpa using k0
 by_cases k1:k=1
 ·subst k1
  exact k99
 have e1:(k==1)=false:=by simpa using k1
 by_cases k3:k=3
 ·subst k3
  exact k99
 have e3:(k==3)=false:=by simpa using k3
 rw[e0,e1,e3]
 exact k99
def Apart (u v:Value):Prop:=∀k,u.ownBlock=some k->v.ownBlock≠some k
theorem k97{p:Prop}(h:p:=by
  intro e;obtain⟨_,_,cur,h4⟩:=own_base hu g e;rw[h2] at h4;exact absurd (Obj.cells.inj (zzo h4)).2.1 (by decide)
  ):p:=h
theorem kids_append {w w2:World}{B g:Nat}{u u2 v:Value}{R:List Int}{o:Obj}{n:Nat}{xs:List Value}(hS:Stk w B g v R)(hu:w.ownsRow B 3 1 u n xs)(hA:Apart u v)(hgrow:(w.alloc o).grownBy w2 u.ownBlock)(hat:u2.ownBlock=u.ownBlock\/u2.ownBlock=some (w.alloc o).heap.size) :
  Stk w2 B g v R/\Apart u2 v/\(∀k,k<w.heap.size->u.ownBlock≠some k->w2.heap[k]? = w.heap[k]?)/\Below B w w2:=by
 have hk:∀k,k<w.heap.size->u.ownBlock≠some k->w2.heap[k]? = w.heap[k]? := fun k h1 h2=>by
  rw[hgrow.block k (by simp;omega) (fun e=>h2 e.symm),zzf w o k h1]
 have hg:=hS.cells.2.2.2.2.2
 obtain⟨h0,h1,cs,h2,h3⟩:=hS
 have hug:u.ownBlock≠some g:=by
  exact k97
 refine⟨⟨h0,?_,cs,(hk g hg hug).trans h2,h3⟩,?_,hk,?_⟩
 ·obtain⟨k1,k2 | ⟨b,cap,cur,rfl,hb,hc,k3⟩⟩:=h1
  ·exact⟨k1,.inl k2⟩
  ·refine⟨k1,.inr ⟨b,cap,cur,rfl,hb,?_,k3⟩⟩
   rw[hk b (zza.1 hc).1 (fun e=>hA b e rfl)];exact hc
 ·intro k hk2
  rcases hat with e | e
  ·exact hA k (e▸hk2)
  ·intro hv
   have:=(own_base h1 k hv).2.1
   rw[e] at hk2;simp at hk2;omega
 ·have hBw:B<=w.heap.size:=by omega
  exact⟨hgrow.os,hgrow.tape,hgrow.output,by have:=hgrow.size;simp at this;omega,fun k hk2=>hk k oo (fun e=>by have:=(own_base hu k e).1;omega)⟩
theorem kids_pass {w w2:World}{B g:Nat}{u v v' : Value}{R:List Int}{n:Nat}{xs:List Value}(hS:Stk w B g v R)(hu:w.ownsRow B 3 1 u n xs)(hA:Apart u v)(hK:KeptS g v.ownBlock w w2)(hF:v'.ownBlock=v.ownBlock\/∀k,v'.ownBlock=some k->w.heap.size<=k) :
  w2.ownsRow B 3 1 u n xs/\Apart u v' /\ Below B w w2:=by
 have hg:=hS.cells.2.2.2.2.2
 obtain⟨h0,h1,cs,h2,h3⟩:=hS
 have hug:u.ownBlock≠some g:=by
  exact k97
 refine⟨?_,?_,hK.below h0 (fun k e=>(own_base h1 k e).1) oo⟩
 ·obtain⟨k1,k2 | ⟨b,cap,cur,rfl,hb,hc,k3⟩⟩:=hu
  ·exact⟨k1,.inl k2⟩
  ·refine⟨k1,.inr ⟨b,cap,cur,rfl,hb,?_,k3⟩⟩
   rw[hK.block b (zza.1 hc).1 (fun e=>hug (by simp[Value.ownBlock,e])) (fun e=>hA b rfl e.symm)];exact hc
 ·intro k hk
  rcases hF with e | e
  ·rw[e]
   exact hA k hk
  ·intro hv
   have:=e k hv
   have:=(own_base hu k hk).2.1
   omega
theorem part_kept (i:Int)(x:Tok)(k:Nat)(S out:List Int):kept i x k S out=if S.getLast?.getD (-1)=i/\part x=true then out++[(k:Int)] else out:=by
 have hp:part x=true↔(x.k=0\/x.k=1\/x.k=3):=by simp[part]
 unfold kept
 by_cases h:S.getLast?.getD (-1)=i/\part x=true
 ·rw[if_pos h,if_pos ⟨h.1,hp.1 h.2⟩]
 ·rw[if_neg h,if_neg (fun h2=>h ⟨h2.1,hp.2 h2.2⟩)]
def RowC (k:IntKind)(w:World)(a:Option Addr)(len cap:Nat)(zs:List Int):Prop:=Row k w a len zs/\len<=cap/\cap<=9223372036854775807
theorem rowc_of_owns {W:World}{base:Nat}{e:TypeId}{k:IntKind}{v:Value}{n:Nat}{bs:List Int}(h:W.ownsRow base e 1 v n (bs.map (Value.int k))):∃a cap,v=.slice a n cap/\RowC k W a n cap bs:=by
 obtain⟨a,cap,hv,hr⟩:=row_of_owns h
 refine⟨a,cap,hv,hr,?_⟩
 rcases h.2 with ⟨e1,e2⟩ | ⟨g,c,cur,e1,_,_,h1,h2,_⟩
 ·rw[hv] at e1
  (injection e1 with _ h1 h2);subst h2;omega
 ·rw[hv] at e1
  (injection e1 with _ _ h3);subst h3;unfold maxLen at h2;omega
end Go.Proofs.YtjkebndkeamijaaGreatDoor
