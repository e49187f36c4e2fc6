/-
  PROVED HERE: what the texts DARHeld, DARSeqP, DARSeq, DARAlt, DAAuto say.
-/
import Derived.Test.YtmablhmpfcefnaaGreatDoorCADARPart
namespace Go.Proofs.YtmablhmpfcefnaaGreatDoor
open Go.RowKit
structure HeldQ (kd:Int) (g:Nat) (s:ByteArray) (f:Bool) (w wr:World) (i0 i:Nat) (l:List (DataW Unit)) (v:Value) (n:Nat):Prop where
 pat:PAt wr g s i f
 kept:Kept g w wr
 good:∀x∈l,GoodT x
 kinds:∀x∈l,kindT x≠99
 len:l.length=n
 pos:0<n
 lei:n+i0<=i+1
 flat:(flatT kd l).length+i0<=i+1
 flat0:f=false->(flatT kd l).length+i0<=i/\n+i0<=i
 wid:∀x∈l,(subs x).length+i0<=i+1
 wid0:f=false->∀x∈l,(subs x).length+i0<=i
 big:w.heap.size<wr.heap.size
 zero:wr.heap[w.heap.size]? = some (.cells #[.int .i64 0,.string ⟨#[]⟩,.slice none 0 0] 64 (0,0))
 rows:∃m rs,wr.ownsRow (w.heap.size+1) 64 3 v n (rawC rs)/\Rows3 (fun b=>w.heap.size<b/\v.ownBlock≠some b) wr m l rs
def Wid (f:Bool) (t:DataW Unit) (i j:Nat):Prop:=(f=false/\i<j/\(subs t).length+i<=j)\/(f=true/\i<=j/\(subs t).length+i<=j+1)
theorem Wid.flat {kd:Int} {f:Bool} {t:DataW Unit} {i j:Nat} (h:Wid f t i j):(if kindT t=kd then subs t else [t]).length+i<=j+1/\(f=false->(if kindT t=kd then subs t else [t]).length+i<=j):=by
 rcases h with ⟨rfl,h1,h2⟩ | ⟨rfl,h1,h2⟩
 ·split
  ·exact⟨by omega,fun _=>h2⟩
  ·rw[List.length_singleton];exact⟨by omega,fun _=>by omega⟩
 ·split
  ·exact⟨h2,fun e=>by cases e⟩
  ·rw[List.length_singleton];exact⟨by omega,fun e=>by cases e⟩
theorem HeldQ.start (kd:Int) {g:Nat} {s:ByteArray} {f:Bool} {w W1:World} (hgw:g<w.heap.size) {o:Obj} (ho:o=.cells #[.int .i64 0,.string ⟨#[]⟩,.slice none 0 0] 64) (hK:Kept g (w.alloc o) W1) {i0 j:Nat} (hP:PAt W1 g s j f) {t:DataW Unit} (hG:GoodT t) (h99:kindT t≠99) {m:Nat} {k:Int} {nm:ByteArray} {a:Option Addr} {ln cp:Nat}
  (hX:ExA (fun b=>(w.alloc o).heap.size<=b) W1 m t (.agg #[.int .i64 k,.string nm,.slice a ln cp])) (hw:Wid f t i0 j) :
  HeldQ kd g s f w (W1.alloc (.cells #[.int .i64 k,.string nm,.slice a ln cp] 64)) i0 j [t] (.slice (some ⟨W1.heap.size,0,none⟩) 1 1) 1:=by
 have hs:=hK.size
 rw[World.size_alloc] at hs
 obtain⟨f1,f2⟩:=hw.flat (kd:=kd)
 have hfl:flatT kd [t]=if kindT t=kd then subs t else [t]:=by simp[flatT]
 have hij:i0<=j/\(f=false->i0<j)/\(subs t).length+i0<=j+1/\(f=false->(subs t).length+i0<=j):=by
  rcases hw with ⟨rfl,h1,h2⟩ | ⟨rfl,h1,h2⟩
  ·exact⟨by omega,fun _=>h1,by omega,fun _=>h2⟩
  ·exact⟨h1,fun e=>by (cases e),h2,fun e=>by (cases e)⟩
 refine⟨hP.alloc _,((Kept.refl g w).alloc o).trans (hK.alloc _),?_,?_,rfl,by omega,by omega,by rw[hfl];exact f1,fun e=>⟨by rw[hfl];exact f2 e,by have:=hij.2.1 e;omega⟩,?_,?_,by rw[World.size_alloc];omega,?_,m,[(k,nm,a,ln,cp)],World.ownsRow_lit W1 #[.int .i64 k,.string nm,.slice a ln cp] 1 (by omega) (by decide) rfl,?_⟩
 ·intro x hx
  obtain rfl:x=t:=by simpa using hx
  exact hG
 ·intro x hx
  obtain rfl:x=t:=by simpa using hx
  exact h99
 ·intro x hx
  obtain rfl:x=t:=by simpa using hx
  exact hij.2.2.1
 ·intro e x hx
  obtain rfl:x=t:=by simpa using hx
  exact hij.2.2.2 e
 ·rw[zzf W1 _ _ (by omega),hK.block _ (by rw[World.size_alloc];omega) (by omega),heap_alloc_new,ho]
 ·refine Rows3.one (r:=(k,nm,a,ln,cp)) (ExA.kept (w:=W1) (by rw[World.size_alloc];omega) (fun b hb hA=>⟨⟨?_,?_⟩,zzf W1 _ b hb⟩) _ _ _ hX)
  ·rw[World.size_alloc] at hA
   omega
  ·intro e
   have e2:W1.heap.size=b:=zzo e
   omega
theorem HeldQ.append {kd:Int} {g:Nat} {s:ByteArray} {f:Bool} {w wr:World} {i0 i i1:Nat} {l:List (DataW Unit)} {v:Value} {n:Nat} (h:HeldQ kd g s false w wr i0 i l v n) (hgw:g<w.heap.size) {W1:World} (hK:Kept g wr W1) {j:Nat} (hP:PAt W1 g s j f) (hii:i<=i1) {t:DataW Unit} (hG:GoodT t) (h99:kindT t≠99) {m:Nat} {k:Int} {nm:ByteArray} {a:Option Addr} {ln cp:Nat}
  (hX:ExA (fun b=>wr.heap.size<=b) W1 m t (.agg #[.int .i64 k,.string nm,.slice a ln cp])) (hw:Wid f t i1 j) (hj:j<=200) :
  ∃v' W3,(Builtin.append_ #[62,62] 62 #[v,.slice (some ⟨W1.heap.size,0,none⟩) 1 1]).run Tryz.prog (W1.alloc (.cells #[.int .i64 k,.string nm,.slice a ln cp] 64))=.ok v' W3/\HeldQ kd g s f w W3 i0 j (l++[t]) v' (n+1):=by
 obtain⟨m0,rs,hown,hrows⟩:=h.rows
 have hsz:w.heap.size<=wr.heap.size:=h.kept.size
 have hbg:=h.big
 have hsz2:=hK.size
 have hlei:=h.lei
 have hfl:=h.flat
 obtain⟨hfl0,hle0⟩:=h.flat0 rfl
 obtain⟨f1,f2⟩:=hw.flat (kd:=kd)
 have hij:i1<=j/\(f=false->i1<j)/\(subs t).length+i1<=j+1/\(f=false->(subs t).length+i1<=j):=by
  rcases hw with ⟨rfl,h1,h2⟩ | ⟨rfl,h1,h2⟩
  ·exact⟨by omega,fun _=>h1,by omega,fun _=>h2⟩
  ·exact⟨h1,fun e=>by (cases e),h2,fun e=>by (cases e)⟩
 obtain⟨Y,hY⟩:∃Y:Obj,Y=.cells #[.int .i64 k,.string nm,.slice a ln cp] 64:=⟨_,rfl⟩
 rw[<-hY]
 have hne:∀k,v.ownBlock=some k->k≠g:=fun k hk=>by have:=(own_lies hown hk).1;omega
 have hown1:W1.ownsRow (w.heap.size+1) 64 3 v n (rawC rs):=owns_kept hown fun k hk=>hK.block k (own_lies hown hk).2 (hne k hk)
 have hown2:(W1.alloc Y).ownsRow (w.heap.size+1) 64 3 v n (rawC rs):=hown1.alloc Y
 have hrows2:Rows3 (fun b=>w.heap.size<b/\v.ownBlock≠some b) (W1.alloc Y) m0 l rs:=hrows.kept (by rw[World.size_alloc];omega) fun b hb hA=>⟨hA,(zzf W1 Y b (by omega)).trans (hK.block b hb (by have:=hA.1;omega))⟩
 have hX2:Rows3 (fun b=>w.heap.size<b/\v.ownBlock≠some b) (W1.alloc Y) m [t] [(k,nm,a,ln,cp)]:=Rows3.one (ExA.kept (w:=W1) (by rw[World.size_alloc];omega) (fun b hb hA=>⟨⟨by omega,fun e=>by have:=(own_lies hown e).2;omega⟩,zzf W1 Y b hb⟩) _ _ _ hX)
 have hall:Rows3 (fun b=>w.heap.size<b/\v.ownBlock≠some b) (W1.alloc Y) (max m0 m) (l++[t]) (rs++([(k,nm,a,ln,cp)]:List Raw)):=(hrows2.upto (by omega)).append (hX2.upto (by omega))
 have hcell:∀j,(W1.alloc Y).cell? ⟨W1.heap.size,j,none⟩=(#[Value.int .i64 k,.string nm,.slice a ln cp]:Array Value)[j]? := fun j=>by
  have:=heap_alloc_new W1 Y
  rw[hY] at this ⊢
  exact cell_of_row _ _ j _ _ _ this
 obtain⟨v', W3,hrun,ho,hgr,hat⟩:=expr_append (qs:=[(k,nm,a,ln,cp)]) hown2 (by rw[World.size_alloc];omega) W1.heap.size 0 1 1 rfl (fun j u hj=>by
  rw[add_none5]
  refine rawC_cells [((k,nm,a,ln,cp):Raw)] 0 (fun i x hx=>?_) j u hj
  cases i with
  | zero=>
   have hx2:((k,nm,a,ln,cp):Raw)=x:=zzo hx
   subst hx2
   exact⟨hcell 0,hcell 1,hcell 2⟩
  | succ i=>cases hx) (by omega)
 have hblk:∀b,b<W1.heap.size->v.ownBlock≠some b->W3.heap[b]? = W1.heap[b]? := fun b hb hn=>(hgr.block b (by rw[World.size_alloc];omega) (fun e=>hn e.symm)).trans (zzf W1 Y b hb)
 have hs3:=hgr.size
 rw[World.size_alloc] at hs3
 refine⟨v', W3,hrun,⟨?_,?_,?_,?_,?_,by omega,by omega,?_,?_,?_,?_,by omega,?_,max m0 m,rs++([(k,nm,a,ln,cp)]:List Raw),ho,?_⟩⟩
 ·exact(hblk g (by omega) (fun e=>hne g e rfl)).trans hP
 ·refine⟨hgr.os.trans (hK.os.trans h.kept.os),hgr.tape.trans (hK.tape.trans h.kept.tape),hgr.output.trans (hK.output.trans h.kept.output),by omega,fun k hk hg=>?_⟩
  rw[hblk k (by omega) (fun e=>by have:=(own_lies hown e).1;omega),hK.block k (by omega) hg,h.kept.block k hk hg]
 ·intro x hx
  rcases List.mem_append.1 hx with hx | hx
  ·exact h.good x hx
  ·obtain rfl:x=t:=by simpa using hx
   exact hG
 ·intro x hx
  rcases List.mem_append.1 hx with hx | hx
  ·exact h.kinds x hx
  ·obtain rfl:x=t:=by simpa using hx
   exact h99
 ·rw[List.length_append,h.len,List.length_singleton]
 ·rw[flat_add,List.length_append]
  omega
 ·intro e
  have:=f2 e
  have:=hij.2.1 e
  rw[flat_add,List.length_append]
  exact⟨by omega,by omega⟩
 ·intro x hx
  rcases List.mem_append.1 hx with hx | hx
  ·have:=h.wid x hx
   omega
  ·obtain rfl:x=t:=by simpa using hx
   have:=hij.2.2.1
   omega
 ·intro e x hx
  have:=hij.2.1 e
  rcases List.mem_append.1 hx with hx | hx
  ·have:=h.wid0 rfl x hx
   omega
  ·obtain rfl:x=t:=by simpa using hx
   have:=hij.2.2.2 e
   omega
 ·rw[hblk _ (by omega) (fun e=>by have:=(own_lies hown e).1;omega),hK.block _ (by omega) (by omega)]
  exact h.zero
 ·refine hall.kept (by rw[World.size_alloc];omega) fun b hb hA=>⟨⟨hA.1,?_⟩,hgr.block b hb (fun e=>hA.2 e.symm)⟩
  rcases hat with e | e
  ·rw[e];exact hA.2
  ·rw[e]
   intro e2
   cases e2
   omega
theorem HeldQ.next {kd:Int} {g:Nat} {s:ByteArray} {w wr:World} {i0 i:Nat} {l:List (DataW Unit)} {v:Value} {n:Nat} (h:HeldQ kd g s false w wr i0 i l v n) (hgw:g<w.heap.size) {W:World} (hK:Kept g wr W) {j:Nat} (hP:PAt W g s j false) (hij:i<=j):HeldQ kd g s false w W i0 j l v n:=by
 obtain⟨m0,rs,hown,hrows⟩:=h.rows
 have hle:=h.lei
 have hbg:=h.big
 have hsz:=hK.size
 have hfl:=h.flat
 refine⟨hP,h.kept.trans hK,h.good,h.kinds,h.len,h.pos,by omega,by omega,fun e=>by have:=h.flat0 e;omega,fun x hx=>by have:=h.wid x hx;omega,fun e x hx=>by have:=h.wid0 e x hx;omega,by omega,?_,m0,rs,?_,?_⟩
 ·exact(hK.block _ hbg (by omega)).trans h.zero
 ·exact owns_kept hown fun k hk=>hK.block k (own_lies hown hk).2 (by have:=(own_lies hown hk).1;omega)
 ·exact hrows.kept hsz fun b hb hA=>⟨hA,hK.block b hb (by have:=hA.1;omega)⟩
theorem HeldQ.joins {kd:Int} (hkd:kd=2\/kd=3) {g:Nat} {s:ByteArray} {f:Bool} {w wr:World} {i0 i:Nat} {l:List (DataW Unit)} {v:Value} {n:Nat} (h:HeldQ kd g s f w wr i0 i l v n) (_hgw:g<w.heap.size) (hi:i<=200) :
  Calls Tryz.prog 144 #[.int .i64 kd,v] wr fun e w' => Kept g w w' /\ PAt w' g s i f/\w'.heap[w.heap.size]? = some (.cells #[.int .i64 0,.string ⟨#[]⟩,.slice none 0 0] 64 (0,0))/\w.heap.size<w'.heap.size/\∃r m', e=.returned (rawV r)/\ExA (fun b=>w.heap.size<b) w' m' (joinT kd l) (rawV r)/\GoodT (joinT kd l)/\kindT (joinT kd l)≠99/\(subs (joinT kd l)).length+i0<=i+1/\(f=false->(subs (joinT kd l)).length+i0<=i/\i0<i):=by
 obtain⟨m0,rs,hown,hrows⟩:=h.rows
 have hn:=h.pos
 obtain⟨n', rfl⟩:∃n', n=n' + 1:=⟨n - 1,by omega⟩
 obtain⟨b,cap,rfl,_,_⟩:∃b cap,v=.slice (some ⟨b,0,none⟩) (n' + 1) cap/\w.heap.size+1<=b/\b<wr.heap.size:=by
  obtain⟨_,⟨_,h0⟩ | ⟨b,cap,cur,hv,hb,hgb,_⟩⟩:=hown
  ·cases h0
  ·exact⟨b,cap,hv,hb,(zza.1 hgb).1⟩
 have hbb:=own_lies hown (k:=b) rfl
 have hbg:=h.big
 have hfl:=h.flat
 have hl0:l≠[]:=fun e=>by have:=h.len;rw[e] at this;cases this
 obtain⟨hG,hcase⟩:=join_cases hkd l h.good hl0
 have hL:LRow wr (some ⟨b,0,none⟩) (n' + 1) m0 (w.heap.size+1) l rs:=⟨b,0,rfl,hbb.2,h.len,hrows.kept (zzb _) fun x _ hA=>⟨by have:=hA.1;omega,rfl⟩,hown.cells rfl⟩
 refine(join_calls kd hkd (some ⟨b,0,none⟩) (n' + 1) cap m0 (w.heap.size+1) l rs wr hL (by omega) h.good (by omega) (by omega)).mono ?_
 rintro e w' ⟨hB,r,m', rfl,hX⟩
 have hKw:Kept g wr w' := Kept.of_below hB
 refine⟨h.kept.trans hKw,h.pat.below hB,(hB.block _ hbg).trans h.zero,by have:=hB.size;omega,r,m', rfl,hX.mono fun b _ hA=>by omega,hG,?_,?_,?_⟩
 ·rcases hcase with ⟨_,_,h3⟩ | ⟨_,_,h3⟩
  ·exact h.kinds _ h3
  ·rw[h3,kindT_node]
   omega
 ·rcases hcase with ⟨_,_,h3⟩ | ⟨_,_,h3⟩
  ·exact h.wid _ h3
  ·rw[h3,subs_node]
   exact hfl
 ·intro e
  obtain⟨q1,q2⟩:=h.flat0 e
  refine⟨?_,by omega⟩
  rcases hcase with ⟨_,_,h3⟩ | ⟨_,_,h3⟩
  ·exact h.wid0 e _ h3
  ·rw[h3,subs_node]
   exact q1
def SQ (s:ByteArray) (P:List UInt8->Option (DataW Unit)×List UInt8) (R:Option (DataW Unit)×List UInt8) (f:Bool) (l:List (DataW Unit)) (j:Nat):Prop :=
 (f=false/\∃F,(left s j).length<F/\mapJ 2 (seqLoop P F l (left s j))=R)\/(f=true/\R=(none,left s j))
def SA (s:ByteArray) (P:List UInt8->Option (DataW Unit)×List UInt8) (R:Option (DataW Unit)×List UInt8) (f:Bool) (l:List (DataW Unit)) (j:Nat):Prop :=
 (f=false/\∃F,(left s j).length<F/\mapJ 3 (altLoop P F l (left s j))=R)\/(f=true/\R=(none,left s j))
def Step (s:ByteArray) (R:Option (DataW Unit)×List UInt8) (f:Bool) (t:DataW Unit) (i j:Nat):Prop:=(f=false/\R=(some t,left s j)/\i<j/\(subs t).length+i<=j)\/(f=true/\R=(none,left s j)/\(subs t).length+i<=j+1)
theorem Step.wid {s:ByteArray} {R:Option (DataW Unit)×List UInt8} {f:Bool} {t:DataW Unit} {i j:Nat} (h:Step s R f t i j) (hij:i<=j):Wid f t i j:=by
 rcases h with ⟨h1,_,h2,h3⟩ | ⟨h1,_,h3⟩
 ·exact .inl ⟨h1,h2,h3⟩
 ·exact .inr ⟨h1,hij,h3⟩
theorem SQ.first {s:ByteArray} {P:List UInt8->Option (DataW Unit)×List UInt8} {f:Bool} {t:DataW Unit} {i j:Nat} (h:Step s (P (left s i)) f t i j):SQ s P (seqL P (left s i)) f [t] j:=by
 unfold seqL
 rcases h with ⟨h1,h2,_⟩ | ⟨h1,h2,_⟩
 ·rw[h2]
  exact .inl ⟨h1,(left s j).length+1,Nat.lt_succ_self _,rfl⟩
 ·rw[h2]
  exact .inr ⟨h1,rfl⟩
theorem SQ.stop {s:ByteArray} {P:List UInt8->Option (DataW Unit)×List UInt8} {R:Option (DataW Unit)×List UInt8} {l:List (DataW Unit)} {j:Nat} (h:SQ s P R false l j) (hs:left s j=[]\/∃c q,left s j=c::q/\(c=124\/c=41)):R=(some (joinT 2 l),left s j):=by
 rcases h with ⟨_,F,hF,h⟩ | ⟨h,_⟩
 ·rw[<-h]
  cases F with
  | zero=>omega
  | succ F=>
   rcases hs with hs | ⟨c,q,hs,hc⟩
   ·rw[hs,seqLoop];rfl
   ·rw[hs,seqLoop,if_pos hc];rfl
 ·cases h
theorem SQ.next {s:ByteArray} {P:List UInt8->Option (DataW Unit)×List UInt8} {R:Option (DataW Unit)×List UInt8} {l:List (DataW Unit)} {j j' : Nat} {f:Bool} {t:DataW Unit} (h:SQ s P R false l j) {c:UInt8} {q:List UInt8} (hs:left s j=c::q) (hc:¬(c=124\/c=41)) (hst:Step s (P (left s j)) f t j j'):SQ s P R f (l++[t]) j' := by
 rcases h with ⟨_,F,hF,h⟩ | ⟨h,_⟩
 ·cases F with
  | zero=>omega
  | succ F=>
   rw[hs,seqLoop,if_neg hc,<-hs] at h
   rcases hst with ⟨h1,h2,h3,_⟩ | ⟨h1,h2,_⟩
   ·rw[h2] at h
    refine .inl ⟨h1,F,?_,h⟩
    have e1:=left_length s j
    have e2:=left_length s j'
    have e3:0<(left s j).length:=by rw[hs];exact Nat.succ_pos _
    omega
   ·rw[h2] at h
    exact .inr ⟨h1,h.symm⟩
 ·cases h
theorem SA.first {s:ByteArray} {P:List UInt8->Option (DataW Unit)×List UInt8} {f:Bool} {t:DataW Unit} {i j:Nat} (h:Step s (P (left s i)) f t i j):SA s P (altL P (left s i)) f [t] j:=by
 unfold altL
 rcases h with ⟨h1,h2,_⟩ | ⟨h1,h2,_⟩
 ·rw[h2]
  exact .inl ⟨h1,(left s j).length+1,Nat.lt_succ_self _,rfl⟩
 ·rw[h2]
  exact .inr ⟨h1,rfl⟩
theorem SA.stop {s:ByteArray} {P:List UInt8->Option (DataW Unit)×List UInt8} {R:Option (DataW Unit)×List UInt8} {l:List (DataW Unit)} {j:Nat} (h:SA s P R false l j) (hs:left s j=[]\/∃c q,left s j=c::q/\c≠124):R=(some (joinT 3 l),left s j):=by
 rcases h with ⟨_,F,hF,h⟩ | ⟨h,_⟩
 ·rw[<-h]
  cases F with
  | zero=>omega
  | succ F=>
   rcases hs with hs | ⟨c,q,hs,hc⟩
   ·rw[hs,altLoop];rfl
   ·rw[hs,altLoop,if_neg hc];rfl
 ·cases h
theorem SA.next {s:ByteArray} {P:List UInt8->Option (DataW Unit)×List UInt8} {R:Option (DataW Unit)×List UInt8} {l:List (DataW Unit)} {j j' : Nat} {f:Bool} {t:DataW Unit} (h:SA s P R false l j) (hs:left s j=124::left s (j+1)) (hst:Step s (P (left s (j+1))) f t (j+1) j'):SA s P R f (l++[t]) j' := by
 rcases h with ⟨_,F,hF,h⟩ | ⟨h,_⟩
 ·cases F with
  | zero=>omega
  | succ F=>
   rw[hs,altLoop,if_pos rfl] at h
   rcases hst with ⟨h1,h2,h3,_⟩ | ⟨h1,h2,_⟩
   ·rw[h2] at h
    refine .inl ⟨h1,F,?_,h⟩
    have e1:=left_length s j
    have e2:=left_length s j'
    have e3:0<(left s j).length:=by rw[hs];exact Nat.succ_pos _
    omega
   ·rw[h2] at h
    exact .inr ⟨h1,h.symm⟩
 ·cases h
theorem HeldQ.ends {kd:Int} (hkd:kd=2\/kd=3) {g:Nat} {s:ByteArray} {f:Bool} {w wr:World} {i0 i:Nat} {l:List (DataW Unit)} {v:Value} {n:Nat} (h:HeldQ kd g s f w wr i0 i l v n) (hgw:g<w.heap.size) (hs:s.size<=200) (hP:Pl s i) (hi:i0<=i) {R:Option (DataW Unit)×List UInt8} (hR:(f=false/\R=(some (joinT kd l),left s i))\/(f=true/\R=(none,left s i))) :
  Calls Tryz.prog 144 #[.int .i64 kd,v] wr fun e w' => ∃r,e=.returned (rawV r)/\w'.heap[w.heap.size]? = some (.cells #[.int .i64 0,.string ⟨#[]⟩,.slice none 0 0] 64 (0,0))/\∀cs,Kept g w (w'.setRow w.heap.size cs)/\RSaid g s w.heap.size i0 R (.returned (rawV r)) (w'.setRow w.heap.size cs):=by
 refine(h.joins hkd hgw (Nat.le_trans hP.1 hs)).mono ?_
 rintro e w' ⟨hK,hPA,hz,hbg,r,m', rfl,hX,hG,h99,hw1,hw2⟩
 refine⟨r,rfl,hz,fun cs=>⟨hK.setRow _ _ (zzb _),i,joinT kd l,m', r,f,hPA.setRow _ _ (by omega),hP,hi,hG,h99,?_,rfl,?_⟩⟩
 ·exact ExA.kept (by rw[size_setRow];omega) (fun b hb hA=>⟨by omega,setRow_other _ _ _ _ (by omega)⟩) _ _ _ hX
 ·rcases hR with ⟨h1,h2⟩ | ⟨h1,h2⟩
  ·exact .inl ⟨h1,h2,(hw2 h1).2,(hw2 h1).1⟩
  ·exact .inr ⟨h1,h2,hw1⟩
set_option maxRecDepth 100000 in
set_option maxHeartbeats 2000000 in
theorem rseq_calls (g:Nat) (s:ByteArray) (n:Nat) (hs:s.size<=200) (hCH:RCH g s n) (i:Nat) (w:World) (hR:PAt w g s i false) (hi:i<=s.size) (hn:s.size - i<n+1) :
  Calls Tryz.prog 143 #[.pointer (some ⟨g,0,none⟩)] w fun e w' => Kept g w w' /\ RSaid g s w.heap.size i (seqL (partL (altN n)) (left s i)) e w' := by
 have hmx:Tryz.prog.follows .mixedOrders=true:=by kernel_rfl
 have hgl:=hR.lt
 obtain⟨RR,hRR⟩:∃RR,seqL (partL (altN n)) (left s i)=RR:=⟨_,rfl⟩
 rw[hRR]
 have HG:Hid (g<w.heap.size):=hgl
 have HPK:Hid (∀W j,PAt W g s j false->Pl s j->Calls Tryz.prog 112 #[.pointer (some ⟨g,0,none⟩)] W fun r w' => r=.returned (.int .u8 (peekC s j false))/\PAt w' g s j false/\Only g W w'):=fun W j h hj=>by
  have:=peek_calls g s j false W h hj.1 (by have:=hj.1;omega)
  rwa [hj.stay] at this
 have HPT:Hid (∀W j,PAt W g s j false->j<=s.size->i<=j->Calls Tryz.prog 155 #[.pointer (some ⟨g,0,none⟩)] W fun e W' => Kept g W W' /\ RSaid g s W.heap.size j (partL (altN n) (left s j)) e W'):=fun W j h hj hij=>rpart_calls g s n hs hCH j W h hj (by omega)
 have HJN:Hid (∀W j l v n f,HeldQ 2 g s f w W i j l v n->Pl s j->i<=j->((f=false/\RR=(some (joinT 2 l),left s j))\/(f=true/\RR=(none,left s j)))->Calls Tryz.prog 144 #[.int .i64 2,v] W fun e w' => ∃r,e=.returned (rawV r)/\w'.heap[w.heap.size]? = some (.cells #[.int .i64 0,.string ⟨#[]⟩,.slice none 0 0] 64 (0,0))/\∀cs,Kept g w (w'.setRow w.heap.size cs)/\RSaid g s w.heap.size i RR (.returned (rawV r)) (w'.setRow w.heap.size cs)):=fun W j l v n f h1 h2 h3 h4=>h1.ends (by omega) hgl hs h2 h3 h4
 have HR:Hid (∀o,PAt (w.alloc o) g s i false):=fun o=>hR.alloc o
 have HI:Hid (i<=s.size/\s.size<=200):=⟨hi,hs⟩
 have HQ0:Hid (∀f t j,Step s (partL (altN n) (left s i)) f t i j->SQ s (partL (altN n)) RR f [t] j):=fun f t j h=>hRR▸SQ.first h
 clear hR hCH hn hgl hRR hi hs
 go_enter Tryz.func143,Tryz.ntmps143
 go_wp2_with fail
 refine(HPT.out _ i (HR.out _) HI.out.1 (zzb _)).mono ?_
 rintro e1 W1 ⟨hK1,j,t,m,⟨k,nm,a,ln,cp⟩,f,hP1,hPl,hij,hG,h99,hX,rfl,hcase⟩
 unfold rawV at hX ⊢
 simp only at hX ⊢
 have hH:=HeldQ.start 2 HG.out rfl hK1 hP1 hG h99 hX (Step.wid hcase hij)
 have HQ:Hid (SQ s (partL (altN n)) RR f [t] j):=HQ0.out _ _ _ hcase
 clear hK1 hP1 hG h99 hX hcase HR HQ0
 go_wp2
 go_loopg [3] (s.size+1 - j) (fun gk u w' => ∃v j l c f,v=u/\HeldQ 2 g s f w w' i j l v c/\Pl s j/\i<=j/\(f=false->s.size+1 - j<=gk)/\SQ s (partL (altN n)) RR f l j)
 case atStart=>exact⟨_,j,[t],1,f,rfl,hH,hPl,hij,fun _=>zzb _,HQ.out⟩
 case round=>
  clear HQ hH hPl hij
  obtain⟨v,j2,l2,n2,f2,hvu,hH,hPl,hij,hgk,hq⟩:=hrel
  subst hvu
  have HQ:Hid (SQ s (partL (altN n)) RR f2 l2 j2):=hq
  have HH:Hid (HeldQ 2 g s f2 w wr i j2 l2 v n2):=hH
  obtain⟨g0,g1,g2,g3,g4⟩:=hH.pat.cells
  have HP:Hid (Pl s j2/\i<=j2/\(f2=false->s.size+1 - j2<=gk)/\j2<=200):=⟨hPl,hij,hgk,Nat.le_trans hPl.1 HI.out.2⟩
  clear hH hq hPl hij hgk
  cases f2 with
  | true=>
   have HJ:=HJN.out wr j2 l2 v n2 true HH.out HP.out.1 HP.out.2.1 (.inr ⟨rfl,by rcases HQ.out with ⟨h,_⟩ | ⟨_,h⟩;cases h;exact h⟩)
   clear HJN HPT HPK HQ HH HP
   go_wp2_with fail
   refine HJ.mono ?_
   clear HJ
   rintro e9 W9 ⟨⟨k,nm,a,ln,cp⟩,rfl,hz9,hr9⟩
   have HZ:Hid (W9.heap[w.heap.size]? = some (.cells #[.int .i64 0,.string ⟨#[]⟩,.slice none 0 0] 64 (0,0))):=hz9
   have HF:Hid (∀cs,Kept g w (W9.setRow w.heap.size cs)/\RSaid g s w.heap.size i RR (.returned (rawV (k,nm,a,ln,cp))) (W9.setRow w.heap.size cs)):=hr9
   clear hz9 hr9
   unfold rawV
   simp only
   go_wp2_with (refine wpList_store_row rfl 64 _ _ rfl w.heap.size #[.int .i64 k,.string nm,.slice a ln cp] rfl rfl 64 _ HZ.out sizeExpr rfl (ones3 _ _ _ _ _) ?_)
   refine bodyPost_ret (results_cell_row rfl _ _ w.heap.size 64 #[.int .i64 k,.string nm,.slice a ln cp] (0,0) _ rfl (setRow_heap _ _ _ _ _ _ HZ.out) Tryz.underlying64 rfl sizeExpr) rfl ?_
   exact HF.out _
  | false=>
   have HK:Hid (s.size+1 - j2<=gk):=HP.out.2.2.1 rfl
   have HPK2:=HPK.out wr j2 HH.out.pat HP.out.1
   rcases rk_left HP.out.1.1 with ⟨hl,hk⟩ | ⟨c,q,hl,hk,hq,hlt⟩
   all_goals rw[HP.out.1.stay] at hl hk
   ·rw[hk] at HPK2
    have HRR:Hid (RR=(some (joinT 2 l2),left s j2)):=HQ.out.stop (.inl hl)
    clear HPK HPT HQ hl hk
    go_wp2_with fail
    refine HPK2.mono ?_
    clear HPK2
    rintro e5 W5 ⟨rfl,hP5,hO5⟩
    have HJ:=HJN.out W5 j2 l2 v n2 false (HH.out.next HG.out hO5.kept hP5 (zzb _)) HP.out.1 HP.out.2.1 (.inl ⟨rfl,HRR.out⟩)
    clear HJN HH HP hP5 hO5
    go_wp2_with fail
    refine HJ.mono ?_
    clear HJ
    rintro e9 W9 ⟨⟨k,nm,a,ln,cp⟩,rfl,hz9,hr9⟩
    have HZ:Hid (W9.heap[w.heap.size]? = some (.cells #[.int .i64 0,.string ⟨#[]⟩,.slice none 0 0] 64 (0,0))):=hz9
    have HF:Hid (∀cs,Kept g w (W9.setRow w.heap.size cs)/\RSaid g s w.heap.size i RR (.returned (rawV (k,nm,a,ln,cp))) (W9.setRow w.heap.size cs)):=hr9
    clear hz9 hr9
    unfold rawV
    simp only
    go_wp2_with (refine wpList_store_row rfl 64 _ _ rfl w.heap.size #[.int .i64 k,.string nm,.slice a ln cp] rfl rfl 64 _ HZ.out sizeExpr rfl (ones3 _ _ _ _ _) ?_)
    refine bodyPost_ret (results_cell_row rfl _ _ w.heap.size 64 #[.int .i64 k,.string nm,.slice a ln cp] (0,0) _ rfl (setRow_heap _ _ _ _ _ _ HZ.out) Tryz.underlying64 rfl sizeExpr) rfl ?_
    exact HF.out _
   ·rw[hk] at HPK2
    have hk0:max (c.toNat:Int) 1≠0:=by omega
    rw[HP.out.1.stay] at hq hlt
    by_cases hc:c=124\/c=41
    ·have HRR:Hid (RR=(some (joinT 2 l2),left s j2)):=HQ.out.stop (.inr ⟨c,q,hl,hc⟩)
     have hv:max (c.toNat:Int) 1=124\/max (c.toNat:Int) 1=41:=by
      rcases hc with rfl | rfl
      ·exact .inl rfl
      ·exact .inr rfl
     clear HPK HPT HQ hl hk hc hq hlt hk0
     rcases hv with hv | hv
     all_goals
      rw[hv] at HPK2
      clear hv
      go_wp2_with fail
      refine HPK2.mono ?_
      clear HPK2
      rintro e5 W5 ⟨rfl,hP5,hO5⟩
      have HJ:=HJN.out W5 j2 l2 v n2 false (HH.out.next HG.out hO5.kept hP5 (zzb _)) HP.out.1 HP.out.2.1 (.inl ⟨rfl,HRR.out⟩)
      clear HJN HH HP hP5 hO5
      go_wp2_with fail
      refine HJ.mono ?_
      clear HJ
      rintro e9 W9 ⟨⟨k,nm,a,ln,cp⟩,rfl,hz9,hr9⟩
      have HZ:Hid (W9.heap[w.heap.size]? = some (.cells #[.int .i64 0,.string ⟨#[]⟩,.slice none 0 0] 64 (0,0))):=hz9
      have HF:Hid (∀cs,Kept g w (W9.setRow w.heap.size cs)/\RSaid g s w.heap.size i RR (.returned (rawV (k,nm,a,ln,cp))) (W9.setRow w.heap.size cs)):=hr9
      clear hz9 hr9
      unfold rawV
      simp only
      go_wp2_with (refine wpList_store_row rfl 64 _ _ rfl w.heap.size #[.int .i64 k,.string nm,.slice a ln cp] rfl rfl 64 _ HZ.out sizeExpr rfl (ones3 _ _ _ _ _) ?_)
      refine bodyPost_ret (results_cell_row rfl _ _ w.heap.size 64 #[.int .i64 k,.string nm,.slice a ln cp] (0,0) _ rfl (setRow_heap _ _ _ _ _ _ HZ.out) Tryz.underlying64 rfl sizeExpr) rfl ?_
      exact HF.out _
    ·have h124:max (c.toNat:Int) 1≠124:=fun e=>hc (.inl ((max_one (n:=124) (by decide) (by decide)).1 e))
     have h41:max (c.toNat:Int) 1≠41:=fun e=>hc (.inr ((max_one (n:=41) (by decide) (by decide)).1 e))
     generalize max (c.toNat:Int) 1=C at *
     have b0:(C==0)=false:=by rw[beq_eq_false_iff_ne];exact hk0
     have b1:(C==124)=false:=by rw[beq_eq_false_iff_ne];exact h124
     have b2:(C==41)=false:=by rw[beq_eq_false_iff_ne];exact h41
     have HL:Hid (left s j2=c::q/\¬(c=124\/c=41)):=⟨hl,hc⟩
     clear hk0 h124 h41 hk hl hc hq hlt HPK HJN
     go_wp2_with fail
     refine HPK2.mono ?_
     clear HPK2
     rintro e5 W5 ⟨rfl,hP5,hO5⟩
     have HH5:Hid (HeldQ 2 g s false w W5 i j2 l2 v n2):=HH.out.next HG.out hO5.kept hP5 (zzb _)
     have HPT2:=HPT.out W5 j2 hP5 HP.out.1.1 HP.out.2.1
     clear HH HPT hP5 hO5 g0 g1 g2 g3 g4
     go_wp2_with fail
     refine HPT2.mono ?_
     clear HPT2 b0 b1 b2
     rintro e6 W6 ⟨hK6,j3,t3,m3,⟨k3,nm3,a3,ln3,cp3⟩,f3,hP6,hPl3,hij3,hG3,h993,hX3,rfl,hcase3⟩
     unfold rawV at hX3 ⊢
     simp only at hX3 ⊢
     have hst:Step s (partL (altN n) (left s j2)) f3 t3 j2 j3:=hcase3
     have hj3:j3<=200:=Nat.le_trans hPl3.1 HI.out.2
     obtain⟨v7,W7,hrun,hH7⟩:=HH5.out.append (i1:=j2) HG.out hK6 hP6 (by omega) hG3 h993 hX3 (hst.wid hij3) hj3
     have HH7:Hid (HeldQ 2 g s f3 w W7 i j3 (l2++[t3]) v7 (n2+1)):=hH7
     have HQ7:Hid (SQ s (partL (altN n)) RR f3 (l2++[t3]) j3):=HQ.out.next HL.out.1 HL.out.2 hst
     have hN7:f3=false->s.size+1 - j3<gk:=by
      intro e
      rcases hcase3 with ⟨_,_,h,_⟩ | ⟨h,_,_⟩
      ·have:=HK.out
       have:=hPl3.1
       omega
      ·rw[h] at e
       cases e
     have hN8:i<=j3:=by have:=HP.out.2.1;omega
     have hN9:0<gk:=by have:=HK.out;have:=HP.out.1.1;omega
     have HN7:Hid (Pl s j3/\i<=j3/\(f3=false->s.size+1 - j3<gk)/\0<gk):=⟨hPl3,hN8,hN7,hN9⟩
     clear hN7 hN8 hN9 hK6 hP6 hPl3 hij3 hG3 h993 hX3 hcase3 hst hj3 hH7
     go_wp2_with (refine wpList_run_append5 rfl _ _ 62 rfl _ _ v7 W7 rfl rfl hrun ?_)
     cases f3 with
     | false=>
      go_roundg (s.size+1 - j3)
      case measure=>exact HN7.out.2.2.1 rfl
      case rel=>exact⟨_,j3,l2++[t3],n2+1,false,rfl,HH7.out,HN7.out.1,HN7.out.2.1,fun _=>zzb _,HQ7.out⟩
     | true=>
      go_roundg 0
      case measure=>exact HN7.out.2.2.2
      case rel=>exact⟨_,j3,l2++[t3],n2+1,true,rfl,HH7.out,HN7.out.1,HN7.out.2.1,fun e=>(by cases e),HQ7.out⟩
set_option maxRecDepth 100000 in
set_option maxHeartbeats 2000000 in
theorem ralt_calls (g:Nat) (s:ByteArray) (n:Nat) (hs:s.size<=200) (hCH:RCH g s n) (i:Nat) (w:World) (hR:PAt w g s i false) (hi:i<=s.size) (hn:s.size - i<n+1) :
  Calls Tryz.prog 113 #[.pointer (some ⟨g,0,none⟩)] w fun e w' => Kept g w w' /\ RSaid g s w.heap.size i (altL (seqL (partL (altN n))) (left s i)) e w' := by
 have hmx:Tryz.prog.follows .mixedOrders=true:=by kernel_rfl
 have hgl:=hR.lt
 obtain⟨RR,hRR⟩:∃RR,altL (seqL (partL (altN n))) (left s i)=RR:=⟨_,rfl⟩
 rw[hRR]
 have HG:Hid (g<w.heap.size):=hgl
 have HPK:Hid (∀W j,PAt W g s j false->Pl s j->Calls Tryz.prog 112 #[.pointer (some ⟨g,0,none⟩)] W fun r w' => r=.returned (.int .u8 (peekC s j false))/\PAt w' g s j false/\Only g W w'):=fun W j h hj=>by
  have:=peek_calls g s j false W h hj.1 (by have:=hj.1;omega)
  rwa [hj.stay] at this
 have HPT:Hid (∀W j,PAt W g s j false->j<=s.size->i<=j->Calls Tryz.prog 143 #[.pointer (some ⟨g,0,none⟩)] W fun e W' => Kept g W W' /\ RSaid g s W.heap.size j (seqL (partL (altN n)) (left s j)) e W'):=fun W j h hj hij=>rseq_calls g s n hs hCH j W h hj (by omega)
 have HJN:Hid (∀W j l v n f,HeldQ 3 g s f w W i j l v n->Pl s j->i<=j->((f=false/\RR=(some (joinT 3 l),left s j))\/(f=true/\RR=(none,left s j)))->Calls Tryz.prog 144 #[.int .i64 3,v] W fun e w' => ∃r,e=.returned (rawV r)/\w'.heap[w.heap.size]? = some (.cells #[.int .i64 0,.string ⟨#[]⟩,.slice none 0 0] 64 (0,0))/\∀cs,Kept g w (w'.setRow w.heap.size cs)/\RSaid g s w.heap.size i RR (.returned (rawV r)) (w'.setRow w.heap.size cs)):=fun W j l v n f h1 h2 h3 h4=>h1.ends (by omega) hgl hs h2 h3 h4
 have HR:Hid (∀o,PAt (w.alloc o) g s i false):=fun o=>hR.alloc o
 have HI:Hid (i<=s.size/\s.size<=200):=⟨hi,hs⟩
 have HQ0:Hid (∀f t j,Step s (seqL (partL (altN n)) (left s i)) f t i j->SA s (seqL (partL (altN n))) RR f [t] j):=fun f t j h=>hRR▸SA.first h
 clear hR hCH hn hgl hRR hi hs
 go_enter Tryz.func113,Tryz.ntmps113
 go_wp2_with fail
 refine(HPT.out _ i (HR.out _) HI.out.1 (zzb _)).mono ?_
 rintro e1 W1 ⟨hK1,j,t,m,⟨k,nm,a,ln,cp⟩,f,hP1,hPl,hij,hG,h99,hX,rfl,hcase⟩
 unfold rawV at hX ⊢
 simp only at hX ⊢
 have hH:=HeldQ.start 3 HG.out rfl hK1 hP1 hG h99 hX (Step.wid hcase hij)
 have HQ:Hid (SA s (seqL (partL (altN n))) RR f [t] j):=HQ0.out _ _ _ hcase
 clear hK1 hP1 hG h99 hX hcase HR HQ0
 go_wp2
 go_loopg [3] (s.size+1 - j) (fun gk u w' => ∃v j l c f,v=u/\HeldQ 3 g s f w w' i j l v c/\Pl s j/\i<=j/\(f=false->s.size+1 - j<=gk)/\SA s (seqL (partL (altN n))) RR f l j)
 case atStart=>exact⟨_,j,[t],1,f,rfl,hH,hPl,hij,fun _=>zzb _,HQ.out⟩
 case round=>
  clear HQ hH hPl hij
  obtain⟨v,j2,l2,n2,f2,hvu,hH,hPl,hij,hgk,hq⟩:=hrel
  subst hvu
  have HQ:Hid (SA s (seqL (partL (altN n))) RR f2 l2 j2):=hq
  have HH:Hid (HeldQ 3 g s f2 w wr i j2 l2 v n2):=hH
  obtain⟨g0,g1,g2,g3,g4⟩:=hH.pat.cells
  have HP:Hid (Pl s j2/\i<=j2/\(f2=false->s.size+1 - j2<=gk)/\j2<=200):=⟨hPl,hij,hgk,Nat.le_trans hPl.1 HI.out.2⟩
  clear hH hq hPl hij hgk
  cases f2 with
  | true=>
   have HJ:=HJN.out wr j2 l2 v n2 true HH.out HP.out.1 HP.out.2.1 (.inr ⟨rfl,by rcases HQ.out with ⟨h,_⟩ | ⟨_,h⟩;cases h;exact h⟩)
   clear HJN HPT HPK HQ HH HP
   go_wp2_with fail
   refine HJ.mono ?_
   clear HJ
   rintro e9 W9 ⟨⟨k,nm,a,ln,cp⟩,rfl,hz9,hr9⟩
   have HZ:Hid (W9.heap[w.heap.size]? = some (.cells #[.int .i64 0,.string ⟨#[]⟩,.slice none 0 0] 64 (0,0))):=hz9
   have HF:Hid (∀cs,Kept g w (W9.setRow w.heap.size cs)/\RSaid g s w.heap.size i RR (.returned (rawV (k,nm,a,ln,cp))) (W9.setRow w.heap.size cs)):=hr9
   clear hz9 hr9
   unfold rawV
   simp only
   go_wp2_with (refine wpList_store_row rfl 64 _ _ rfl w.heap.size #[.int .i64 k,.string nm,.slice a ln cp] rfl rfl 64 _ HZ.out sizeExpr rfl (ones3 _ _ _ _ _) ?_)
   refine bodyPost_ret (results_cell_row rfl _ _ w.heap.size 64 #[.int .i64 k,.string nm,.slice a ln cp] (0,0) _ rfl (setRow_heap _ _ _ _ _ _ HZ.out) Tryz.underlying64 rfl sizeExpr) rfl ?_
   exact HF.out _
  | false=>
   have HK:Hid (s.size+1 - j2<=gk):=HP.out.2.2.1 rfl
   have HPK2:=HPK.out wr j2 HH.out.pat HP.out.1
   have hcs:(∃q,left s j2=124::q/\peekC s j2 false=124/\left s (j2+1)=q/\j2<s.size)\/((left s j2=[]\/∃c q,left s j2=c::q/\c≠124)/\(peekC s j2 false==124)=false):=by
    have h0:=rk_left HP.out.1.1
    rw[HP.out.1.stay] at h0
    rcases h0 with ⟨hl,hk⟩ | ⟨c,q,hl,hk,hq,hlt⟩
    ·exact .inr ⟨.inl hl,by rw[hk];rfl⟩
    ·by_cases hc:c=124
     ·subst hc
      exact .inl ⟨q,hl,hk,hq,hlt⟩
     ·refine .inr ⟨.inr ⟨c,q,hl,hc⟩,?_⟩
      rw[hk,beq_eq_false_iff_ne]
      exact fun e=>hc ((max_one (n:=124) (by decide) (by decide)).1 e)
   rcases hcs with ⟨q,hl,hk,hq,hlt⟩ | ⟨hst0,hb⟩
   ·rw[hk] at HPK2
    have HL:Hid (left s j2=124::left s (j2+1)/\j2<s.size):=⟨by rw[hq];exact hl,hlt⟩
    have hj2:j2<=200:=HP.out.2.2.2
    clear HPK HJN hl hk hq hlt
    go_wp2_with fail
    refine HPK2.mono ?_
    clear HPK2
    rintro e5 W5 ⟨rfl,hP5,hO5⟩
    clear g0 g1 g2 g3 g4
    obtain⟨g0,g1,g2,g3,g4⟩:=hP5.cells
    obtain⟨W8,hW8⟩:∃W8,W8=W5.setCell ⟨g,1,none⟩ (.int .i64 ((j2:Nat)+1)):=⟨_,rfl⟩
    have hP8:PAt W8 g s (j2+1) false:=by rw[hW8];exact hP5.next (j2+1)
    have hK8:Kept g W5 W8:=⟨by rw[hW8];rfl,by rw[hW8];rfl,by rw[hW8];rfl,by rw[hW8];simp,fun b _ hb=>by rw[hW8];exact zzh _ _ _ _ hb⟩
    have HH5:Hid (HeldQ 3 g s false w W8 i (j2+1) l2 v n2):=HH.out.next HG.out (hO5.kept.trans hK8) hP8 (by omega)
    have HPT2:=HPT.out W8 (j2+1) hP8 HL.out.2 (by have:=HP.out.2.1;omega)
    have HW8:Hid (W8=W5.setCell ⟨g,1,none⟩ (.int .i64 ((j2:Nat)+1))):=hW8
    clear HH HPT hP5 hO5 hW8 hP8 hK8
    go_wp2_with fail
    rw[<-HW8.out]
    clear g0 g1 g2 g3 g4 HW8
    refine HPT2.mono ?_
    clear HPT2
    rintro e6 W6 ⟨hK6,j3,t3,m3,⟨k3,nm3,a3,ln3,cp3⟩,f3,hP6,hPl3,hij3,hG3,h993,hX3,rfl,hcase3⟩
    unfold rawV at hX3 ⊢
    simp only at hX3 ⊢
    have hst:Step s (seqL (partL (altN n)) (left s (j2+1))) f3 t3 (j2+1) j3:=hcase3
    have hj3:j3<=200:=Nat.le_trans hPl3.1 HI.out.2
    obtain⟨v7,W7,hrun,hH7⟩:=HH5.out.append (i1:=(j2+1)) HG.out hK6 hP6 (by omega) hG3 h993 hX3 (hst.wid hij3) hj3
    have HH7:Hid (HeldQ 3 g s f3 w W7 i j3 (l2++[t3]) v7 (n2+1)):=hH7
    have HQ7:Hid (SA s (seqL (partL (altN n))) RR f3 (l2++[t3]) j3):=HQ.out.next HL.out.1 hst
    have hN7:f3=false->s.size+1 - j3<gk:=by
     intro e
     rcases hcase3 with ⟨_,_,h,_⟩ | ⟨h,_,_⟩
     ·have:=HK.out
      have:=hPl3.1
      omega
     ·rw[h] at e
      cases e
    have hN8:i<=j3:=by have:=HP.out.2.1;omega
    have hN9:0<gk:=by have:=HK.out;have:=HP.out.1.1;omega
    have HN7:Hid (Pl s j3/\i<=j3/\(f3=false->s.size+1 - j3<gk)/\0<gk):=⟨hPl3,hN8,hN7,hN9⟩
    clear hN7 hN8 hN9 hK6 hP6 hPl3 hij3 hG3 h993 hX3 hcase3 hst hj3 hH7
    go_wp2_with (refine wpList_run_append5 rfl _ _ 62 rfl _ _ v7 W7 rfl rfl hrun ?_)
    cases f3 with
    | false=>
     go_roundg (s.size+1 - j3)
     case measure=>exact HN7.out.2.2.1 rfl
     case rel=>exact⟨_,j3,l2++[t3],n2+1,false,rfl,HH7.out,HN7.out.1,HN7.out.2.1,fun _=>zzb _,HQ7.out⟩
    | true=>
     go_roundg 0
     case measure=>exact HN7.out.2.2.2
     case rel=>exact⟨_,j3,l2++[t3],n2+1,true,rfl,HH7.out,HN7.out.1,HN7.out.2.1,fun e=>(by cases e),HQ7.out⟩
   ·have HRR:Hid (RR=(some (joinT 3 l2),left s j2)):=HQ.out.stop hst0
    generalize peekC s j2 false=C at *
    clear HPK HPT HQ hst0
    go_wp2_with fail
    refine HPK2.mono ?_
    clear HPK2
    rintro e5 W5 ⟨rfl,hP5,hO5⟩
    have HJ:=HJN.out W5 j2 l2 v n2 false (HH.out.next HG.out hO5.kept hP5 (zzb _)) HP.out.1 HP.out.2.1 (.inl ⟨rfl,HRR.out⟩)
    clear HJN HH HP hP5 hO5
    go_wp2_with fail
    refine HJ.mono ?_
    clear HJ
    rintro e9 W9 ⟨⟨k,nm,a,ln,cp⟩,rfl,hz9,hr9⟩
    have HZ:Hid (W9.heap[w.heap.size]? = some (.cells #[.int .i64 0,.string ⟨#[]⟩,.slice none 0 0] 64 (0,0))):=hz9
    have HF:Hid (∀cs,Kept g w (W9.setRow w.heap.size cs)/\RSaid g s w.heap.size i RR (.returned (rawV (k,nm,a,ln,cp))) (W9.setRow w.heap.size cs)):=hr9
    clear hz9 hr9
    unfold rawV
    simp only
    go_wp2_with (refine wpList_store_row rfl 64 _ _ rfl w.heap.size #[.int .i64 k,.string nm,.slice a ln cp] rfl rfl 64 _ HZ.out sizeExpr rfl (ones3 _ _ _ _ _) ?_)
    refine bodyPost_ret (results_cell_row rfl _ _ w.heap.size 64 #[.int .i64 k,.string nm,.slice a ln cp] (0,0) _ rfl (setRow_heap _ _ _ _ _ _ HZ.out) Tryz.underlying64 rfl sizeExpr) rfl ?_
    exact HF.out _
theorem RCH.all (g:Nat) (s:ByteArray) (hs:s.size<=200):∀n,RCH g s n:=by
 intro n
 induction n with
 | zero=>intro W i _ _ h;exact absurd h (by omega)
 | succ n ih=>intro W i hR hi hn;exact ralt_calls g s n hs ih i W hR hi hn
end Go.Proofs.YtmablhmpfcefnaaGreatDoor
namespace Go.Proofs.YtmablhmpfcefnaaGreatDoor
abbrev Place:Type:=Nat×List Nat×Nat
def leastAt (L:List Place) (p:Nat):Nat :=
 match L[p]? with
 | some x=>x.2.2
 | none=>0
def takes (m:Nat) (t:Int):Bool:=decide (0<=t)&&decide (t<16)&&m.testBit t.toNat
theorem takes_zero (t:Int):takes 0 t=false:=by unfold takes;simp
theorem leastAt_some {L:List Place} {p:Nat} {x:Place} (h:L[p]? = some x):leastAt L p=x.2.2:=by unfold leastAt;rw[h]
theorem leastAt_congr {L L' : List Place} {p:Nat} (h:L'[p]? = L[p]?):leastAt L' p=leastAt L p:=by unfold leastAt;rw[h]
def StepAt (L:List Place) (p:Nat) (x:Place):Prop:=x.1≠0/\∃q,x.2.1=[q]/\q<p/\x.2.2=leastAt L q+1
def ForkAt (L:List Place) (p:Nat) (x:Place):Prop:=x.1=0/\(∀q∈x.2.1,q<L.length/\x.2.2<=leastAt L q)/\∃q∈x.2.1,q<p/\x.2.2=leastAt L q
def wf (L:List Place):Prop:=L[0]? = some (0,[],0)/\∀p x,0<p->L[p]? = some x->StepAt L p x\/ForkAt L p x
theorem wf.pos {L:List Place} (h:wf L):0<L.length:=(zzc.1 h.1).1
theorem wf_one:wf [((0,[],0):Place)]:=⟨rfl,fun p x hp hx=>by
 have:=(zzc.1 hx).1
 simp at this
 omega⟩
theorem get_snoc_lt {L:List Place} {y:Place} {p:Nat} (h:p<L.length):(L++[y])[p]? = L[p]? := List.getElem?_append_left h
theorem get_snoc_eq {L:List Place} {y:Place}:(L++[y])[L.length]? = some y:=by simp
theorem wf_add {L:List Place} (h:wf L) {y:Place} (hy:(y.1≠0/\∃q,y.2.1=[q]/\q<L.length/\y.2.2=leastAt L q+1)\/(y.1=0/\(∀q∈y.2.1,q<L.length/\y.2.2<=leastAt L q)/\∃q∈y.2.1,y.2.2=leastAt L q)):wf (L++[y]):=by
 have hl:∀q,q<L.length->leastAt (L++[y]) q=leastAt L q:=fun q hq=>leastAt_congr (get_snoc_lt hq)
 refine⟨by rw[get_snoc_lt h.pos];exact h.1,fun p x hp hx=>?_⟩
 rcases Nat.lt_or_ge p L.length with hlt | hge
 ·rw[get_snoc_lt hlt] at hx
  rcases h.2 p x hp hx with ⟨h1,q,h2,h3,h4⟩ | ⟨h1,h2,q,h3,h4,h5⟩
  ·exact .inl ⟨h1,q,h2,h3,by rw[hl q (by omega)];exact h4⟩
  ·refine .inr ⟨h1,fun r hr=>?_,q,h3,h4,by rw[hl q (by omega)];exact h5⟩
   obtain⟨g1,g2⟩:=h2 r hr
   exact⟨by simp;omega,by rw[hl r g1];exact g2⟩
 ·have hpl:p=L.length:=by
   have:=(zzc.1 hx).1
   simp at this
   omega
  subst hpl
  rw[get_snoc_eq] at hx
  cases hx
  rcases hy with ⟨h1,q,h2,h3,h4⟩ | ⟨h1,h2,q,h3,h4⟩
  ·exact .inl ⟨h1,q,h2,h3,by rw[hl q h3];exact h4⟩
  ·refine .inr ⟨h1,fun r hr=>?_,q,h3,(h2 q h3).1,by rw[hl q (h2 q h3).1];exact h4⟩
   obtain⟨g1,g2⟩:=h2 r hr
   exact⟨by simp;omega,by rw[hl r g1];exact g2⟩
def addNext (L:List Place) (i q:Nat):List Place:=L.modify i (fun x=>(x.1,x.2.1++[q],x.2.2))
theorem addNext_length (L:List Place) (i q:Nat):(addNext L i q).length=L.length:=by unfold addNext;simp
theorem addNext_ne {L:List Place} {i q p:Nat} (h:p≠i):(addNext L i q)[p]? = L[p]? := by unfold addNext;rw[List.getElem?_modify];simp[Ne.symm h]
theorem addNext_eq {L:List Place} {i q:Nat} {x:Place} (h:L[i]? = some x):(addNext L i q)[i]? = some (x.1,x.2.1++[q],x.2.2):=by unfold addNext;rw[List.getElem?_modify,h];simp
theorem addNext_least (L:List Place) (i q p:Nat):leastAt (addNext L i q) p=leastAt L p:=by
 by_cases h:p=i
 ·subst h
  cases hx:L[p]? with
  | none=>
   have:(addNext L p q)[p]? = none:=by
    rw[List.getElem?_eq_none_iff] at hx ⊢
    rw[addNext_length]
    exact hx
   unfold leastAt
   rw[hx,this]
  | some x=>rw[leastAt_some hx,leastAt_some (addNext_eq hx)]
 ·exact leastAt_congr (addNext_ne h)
theorem wf_next {L:List Place} (h:wf L) {i q:Nat} {y:Place} (hi:0<i) (hy:L[i]? = some y) (hz:y.1=0) (hq:q<L.length) (hl:y.2.2<=leastAt L q):wf (addNext L i q):=by
 refine⟨by rw[addNext_ne (by omega)];exact h.1,fun p x hp hx=>?_⟩
 by_cases hpi:p=i
 ·subst hpi
  rw[addNext_eq hy] at hx
  cases hx
  rcases h.2 p y hp hy with ⟨h1,_⟩ | ⟨h1,h2,r,h3,h4,h5⟩
  ·exact absurd hz h1
  ·refine .inr ⟨h1,fun s hs=>?_,r,List.mem_append_left _ h3,h4,by rw[addNext_least];exact h5⟩
   rw[addNext_length,addNext_least]
   rcases List.mem_append.1 hs with hs | hs
   ·exact h2 s hs
   ·simp at hs
    subst hs
    exact⟨hq,hl⟩
 ·rw[addNext_ne hpi] at hx
  rcases h.2 p x hp hx with ⟨h1,r,h2,h3,h4⟩ | ⟨h1,h2,r,h3,h4,h5⟩
  ·exact .inl ⟨h1,r,h2,h3,by rw[addNext_least];exact h4⟩
  ·refine .inr ⟨h1,fun s hs=>?_,r,h3,h4,by rw[addNext_least];exact h5⟩
   rw[addNext_length,addNext_least]
   exact h2 s hs
def Reads (F:List Place):Nat->Nat->List Int->Prop
 | 0,p,w=>p=0/\w=[]
 | k+1,p,w=>(p=0/\w=[])\/∃x,F[p]? = some x/\((x.1=0/\∃q∈x.2.1,Reads F k q w)\/(x.1≠0/\∃t v q,w=t::v/\takes x.1 t=true/\x.2.1[0]? = some q/\Reads F k q v))
theorem Reads.up {F:List Place}:∀{k p:Nat} {w:List Int},Reads F k p w->Reads F (k+1) p w:=by
 intro k
 induction k with
 | zero=>intro p w h;exact .inl h
 | succ k ih=>
  intro p w h
  rcases h with h | ⟨x,hx,⟨h0,q,hq,hr⟩ | ⟨h0,t,v,q,e,ht,hq,hr⟩⟩
  ·exact .inl h
  ·exact .inr ⟨x,hx,.inl ⟨h0,q,hq,ih hr⟩⟩
  ·exact .inr ⟨x,hx,.inr ⟨h0,t,v,q,e,ht,hq,ih hr⟩⟩
theorem Reads.upto {F:List Place} {k m p:Nat} {w:List Int} (h:k<=m) (hr:Reads F k p w):Reads F m p w:=by
 induction h with
 | refl=>exact hr
 | step _ ih=>exact Reads.up ih
end Go.Proofs.YtmablhmpfcefnaaGreatDoor
