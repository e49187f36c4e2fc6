/-
  PROVED HERE: what the texts DARPart, DARHeld say.
-/
import Derived.Test.YtjkebndkeamijaaGreatDoorCADARPartO
set_option maxRecDepth 100000
set_option maxHeartbeats 16000000
namespace Go.Proofs.YtjkebndkeamijaaGreatDoor
open Go.RowKit
theorem k00{p:Prop}(h:p:=by
  go_wp2_with fail
  go_quiet (fail)
  (go_wp2_with fail);obtain⟨Wd,hWd⟩:∃Wd,wr.drewN nq=Wd:=⟨_,rfl⟩;(have hPd:PAt Wd g s j false:=by rw[<-hWd];exact hPj);(have hOd:jW g Wa Wd:=by rw[<-hWd];exact hO.drewN _);rw[hWd];obtain⟨hKa,hza,hea,hEb1,hsa⟩:=HW.out;obtain⟨-,he1,he2,hsT⟩:=HEE.out;have hed:Wd.heap[Eb]? = some (.cells #[.int .i64 0,.string ⟨#[]⟩,.slice none 0 0] 69 (0,0)):=(hOd.block _ oo).trans hea;have hzd:Wd.heap[w.heap.size]? = some (.cells #[.int .i64 0,.string ⟨#[]⟩,.slice none 0 0] 69 (0,0)):=(hOd.block _ oo).trans hza;have hKd:gX g w Wd:=hKa.trans hOd.kept;(have hgE:Eb≠g:=by omega);have HED:Hid (Wd.drew.heap[Eb]? = some (.cells #[.int .i64 0,.string ⟨#[]⟩,.slice none 0 0] 69 (0,0))):=hed
  have HS:Hid (tP g s w (Wd.drew.setRow Eb #[.int .i64 1,.string (s.extract (skip s i) j),.slice none 0 0]) Eb i j T (node 1 (s.extract (skip s i) j) []) 1 1 (s.extract (skip s i) j) none 0 0) :=
   ⟨PAt.setRow (w:=Wd.drew) hPd _ _ hgE,oo,hsT,lC.of (by intro h;omega),by rw[iN];decide,oo,by rw[iC,List.length_nil];omega,gX.setRow (w' := Wd.drew) ⟨hKd.os,hKd.tape,hKd.output,hKd.size,hKd.block⟩ _ _ oo,(setRow_other _ _ _ _ oo).trans hzd,setRow_heap _ _ _ _ _ _ hed,oo,ExA.leaf _ _ 0 1 _ none 0⟩
  (have i1:((skip s i:Nat):Int)<=((j:Nat):Int):=by omega);(have i2:((j:Nat):Int)<=(s.size:Int):=by omega);clear hPj hO hWd hOd hed hzd hKd hKa hza hea hsa he1 he2 hsT HW HEE c0 c1 c2 f1 hEb1;refine wp_region_held_drew (S:=fun w' => PAt w' g s j false) hmx (show PAt Wd.drew g s j false from hPd) (fun hS=>?_);refine gA 0 (some 65) hS ?_ (hy:=by intro w hSw;obtain⟨s0,s1,s2,s3,s4⟩:=PAt.cells hSw;go_simp;with_reducible rfl);refine gA 1 (some 66) hS ?_ (hy:=by intro w hSw;obtain⟨s0,s1,s2,s3,s4⟩:=PAt.cells hSw;go_simp;with_reducible rfl);refine gA 2 (some 67) hS ?_ (hy:=by intro w hSw;obtain⟨s0,s1,s2,s3,s4⟩:=PAt.cells hSw;go_simp;with_reducible rfl);refine gA 3 (some 68) hS ?_ (hy:=by intro w hSw;obtain⟨s0,s1,s2,s3,s4⟩:=PAt.cells hSw;go_simp;with_reducible rfl);refine gA 4 (some 69) hS ?_ (hy:=by intro w hSw;obtain⟨s0,s1,s2,s3,s4⟩:=PAt.cells hSw;go_simp;with_reducible rfl);refine gA 5 (some 70) hS ?_ (hy:=by intro w hSw;obtain⟨s0,s1,s2,s3,s4⟩:=PAt.cells hSw;go_simp;with_reducible rfl);refine gA 6 (some 71) hS ?_ (hy:=by intro w hSw;obtain⟨s0,s1,s2,s3,s4⟩:=PAt.cells hSw;go_simp;with_reducible rfl);refine gA 7 (some 72) hS ?_ (hy:=by intro w hSw;obtain⟨s0,s1,s2,s3,s4⟩:=PAt.cells hSw;go_simp;with_reducible rfl);refine gA 8 (some 73) hS ?_ (hy:=by intro w hSw;obtain⟨s0,s1,s2,s3,s4⟩:=PAt.cells hSw;go_simp;with_reducible rfl);refine gA 9 (some 74) hS ?_ (hy:=by intro w hSw;obtain⟨s0,s1,s2,s3,s4⟩:=PAt.cells hSw;go_simp;with_reducible rfl);refine gA 10 (some 75) hS ?_ (hy:=by intro w hSw;obtain⟨s0,s1,s2,s3,s4⟩:=PAt.cells hSw;go_simp;with_reducible rfl);refine gT 11 kr rfl (fun K hK=>?_);rw[if_pos (by rfl)];refine wp_store_row 69 _ _ rfl Eb #[.int .i64 1,.string (s.extract (skip s i) j),.slice none 0 0] rfl rfl 69 _ HED.out gE rfl (jF _ _ _ _ _) ?_;refine hK.out _ _ (PAt.setRow (w:=Wd.drew) hPd _ _ hgE) (fun _=>?_);clear hK K
  try simp only[Act.put,List.setIfInBounds_toArray]
  refine wpAnyH_done kr ?_ _;clear hPd hS HED hgE i1 i2;go_wp2
  go_loopg [] (s.size+1) (fun f w' => ∃j t m k nm a ln cp,s.size - j<f/\tP g s w w' Eb i j T t m k nm a ln cp)
  case atStart=>exact⟨_,_,_,_,_,_,_,_,oo,HS.out⟩
  case round=>
   clear HS;obtain⟨j,t,m,k,nm,a,ln,cp,hf,hH⟩:=hrel;have HPK:Hid (Calls Tryz.prog 125 #[.pointer (some ⟨g,0,none⟩)] wr fun r w' => r=.returned (.int .u8 (jD s (skip s j) false))/\PAt w' g s (skip s j) false/\jW g wr w'):=mF g s j false wr hH.pat hH.le (by have:=HG.out.2;omega);obtain⟨P2,q2,q3⟩:=Pl.skip hH.le;have hgl:=HG.out.1;have heb:=hH.eb;have hsl:=HG.out.2
   by_cases hstop:left s (skip s j)=[]\/∃c q,left s (skip s j)=c::q/\jL c=0
   ·have hst:=gFk hH.le t hstop
    have hT:=hH.signs;rw[hst] at hT;have HD:Hid (iB (gZ n) (left s i)=(some t,left s (skip s j))/\Pl s (skip s j)/\i<skip s j/\(subs t).length+i<=skip s j):=⟨by rw[HT.out,<-hT],P2,by have:=hH.lt;omega,by have:=hH.wid;omega⟩
    have hpk:jD s (skip s j) false≠42/\jD s (skip s j) false≠43/\jD s (skip s j) false≠63:=by
     rcases tX hH.le with ⟨e,hk⟩ | ⟨c,q,e,hk,_,_⟩
     ·rw[hk];exact⟨by decide,by decide,by decide⟩
     ·rw[hk]
      rcases hstop with h | ⟨c', q', h,h0⟩
      ·rw[h] at e;cases e
      ·rw[h] at e
       cases e;refine⟨fun e=>?_,fun e=>?_,fun e=>?_⟩
       ·rw[(qJ (n:=42) (by decide) (by decide)).1 e] at h0;cases h0
       ·rw[(qJ (n:=43) (by decide) (by decide)).1 e] at h0;cases h0
       ·rw[(qJ (n:=63) (by decide) (by decide)).1 e] at h0;cases h0
    have HH:Hid (tP g s w wr Eb i j T t m k nm a ln cp):=hH;generalize jD s (skip s j) false=C at *;obtain⟨p42,p43,p63⟩:=hpk;(have b42:(C==42)=false:=by rw[beq_eq_false_iff_ne];exact p42);(have b43:(C==43)=false:=by rw[beq_eq_false_iff_ne];exact p43);(have b63:(C==63)=false:=by rw[beq_eq_false_iff_ne];exact p63);clear hst hT hH HT hstop p42 p43 p63 P2 q2 q3;(go_wp2_with fail);refine HPK.out.mono ?_;rintro e3 W3 ⟨rfl,hR3,hO3⟩;have hv:=HH.out.var;have he3:W3.heap[Eb]? = some (.cells #[.int .i64 k,.string nm,.slice a ln cp] 69 (0,0)):=(hO3.block _ oo).trans hv;have c0:W3.cell? ⟨Eb,0,none⟩=some (.int .i64 k):=cell_of_row W3 Eb 0 _ _ _ he3;have c1:W3.cell? ⟨Eb,1,none⟩=some (.string nm):=cell_of_row W3 Eb 1 _ _ _ he3;have c2:W3.cell? ⟨Eb,2,none⟩=some (.slice a ln cp):=cell_of_row W3 Eb 2 _ _ _ he3;have HZ:Hid (W3.heap[w.heap.size]? = some (.cells #[.int .i64 0,.string ⟨#[]⟩,.slice none 0 0] 69 (0,0))):=(hO3.block _ oo).trans HH.out.zero;(have HF:Hid (∀cs,gX g w (W3.setRow w.heap.size cs)/\PAt (W3.setRow w.heap.size cs) g s (skip s j) false/\ExA (fun b=>w.heap.size<=b) (W3.setRow w.heap.size cs) m t (.agg #[.int .i64 k,.string nm,.slice a ln cp])):=fun cs=>⟨(HH.out.kept.trans hO3.kept).setRow _ _ (zzb _),hR3.setRow _ _ oo,ExA.kept (by rw[size_setRow,hO3.size];omega) (fun b hb hA=>⟨oo,(setRow_other _ _ _ _ oo).trans (hO3.block b oo)⟩) _ _ _ HH.out.ex⟩);clear hv he3 hR3 hO3 HPK hgl heb hsl;(go_wp2_with (refine wpList_store_row rfl 69 _ _ rfl w.heap.size #[.int .i64 k,.string nm,.slice a ln cp] rfl rfl 69 _ HZ.out gE rfl (jF _ _ _ _ _) ?_));refine bodyPost_ret (results_cell_row rfl _ _ w.heap.size 69 #[.int .i64 k,.string nm,.slice a ln cp] (0,0) _ rfl (setRow_heap _ _ _ _ _ _ HZ.out) Tryz.underlying69 rfl gE) rfl ?_;exact⟨(HF.out _).1,skip s j,t,m,(k,nm,a,ln,cp),false,(HF.out _).2.1,HD.out.2.1,by have:=HD.out.2.2.1;omega,HH.out.good,HH.out.kind,(HF.out _).2.2,rfl,.inl ⟨rfl,HD.out.1,HD.out.2.2.1,HD.out.2.2.2⟩⟩
   ·rcases tX hH.le with ⟨e,hk⟩ | ⟨c,q,e,hk,hq,hlt⟩
    ·exact absurd (.inl e) hstop
    ·have hkc:jL c≠0:=fun h0=>hstop (.inr ⟨c,q,e,h0⟩)
     have hc3:(c=42/\jL c=4)\/(c=43/\jL c=5)\/(c=63/\jL c=6):=by
      unfold jL at hkc ⊢
      by_cases h1:c=42
      ·subst h1;exact .inl ⟨rfl,rfl⟩
      ·by_cases h2:c=43
       ·subst h2;exact .inr (.inl ⟨rfl,rfl⟩)
       ·by_cases h3:c=63
        ·subst h3;exact .inr (.inr ⟨rfl,rfl⟩)
        ·rw[if_neg h1,if_neg h2,if_neg h3] at hkc
         exact absurd rfl hkc
     have HN:Hid (s.size - (skip s j+1)<gk - 1/\gk - 1<gk):=⟨oo,oo⟩;have hbe:Eb<wr.heap.size:=(zza.1 hH.var).1;rcases hc3 with ⟨rfl,hK⟩ | ⟨rfl,hK⟩ | ⟨rfl,hK⟩
     ·have hpv:jD s (skip s j) false=42:=by rw[hk];rfl
      rw[hpv] at HPK;(have HST:Hid (∀W1,jW g wr W1->PAt W1 g s (skip s j) false->tP g s w (((W1.setCell ⟨g,1,none⟩ (.int .i64 ((skip s j:Nat)+1))).alloc (.cells #[.int .i64 k,.string nm,.slice a ln cp] 69)).setRow Eb #[.int .i64 4,.string ⟨#[]⟩,.slice (some ⟨W1.heap.size,0,none⟩) 1 1]) Eb i (skip s j+1) T (node 4 ⟨#[]⟩ [t]) (m+1) 4 ⟨#[]⟩ (some ⟨W1.heap.size,0,none⟩) 1 1):=fun W1 h1 h2=>hH.step hgl e hq hlt hkc 4 hK oo h1 h2);have hvar:=hH.var;(have hsj:skip s j<=200:=by omega);clear hH hk hq hkc hK hpv e hstop P2 q2 q3 hf;(go_wp2_with fail);refine HPK.out.mono ?_;rintro e3 W3 ⟨rfl,hR3,hO3⟩;obtain⟨g0,g1,g2,g3,-⟩:=hR3.cells;have HS5:=HST.out W3 hO3 hR3;have HS6:Hid (tP g s w (((W3.setCell ⟨g,1,none⟩ (.int .i64 ((skip s j:Nat)+1))).alloc (.cells #[.int .i64 k,.string nm,.slice a ln cp] 69)).setRow Eb #[.int .i64 4,.string ⟨#[]⟩,.slice (some ⟨W3.heap.size,0,none⟩) 1 1]) Eb i (skip s j+1) T (node 4 ⟨#[]⟩ [t]) (m+1) 4 ⟨#[]⟩ (some ⟨W3.heap.size,0,none⟩) 1 1):=HS5;have he3:(W3.setCell ⟨g,1,none⟩ (.int .i64 ((skip s j:Nat)+1))).heap[Eb]? = some (.cells #[.int .i64 k,.string nm,.slice a ln cp] 69 (0,0)):=(zzh _ _ _ _ (by show Eb≠g;omega)).trans ((hO3.block _ oo).trans hvar);have c0:(W3.setCell ⟨g,1,none⟩ (.int .i64 ((skip s j:Nat)+1))).cell? ⟨Eb,0,none⟩=some (.int .i64 k):=cell_of_row _ Eb 0 _ _ _ he3;have c1:(W3.setCell ⟨g,1,none⟩ (.int .i64 ((skip s j:Nat)+1))).cell? ⟨Eb,1,none⟩=some (.string nm):=cell_of_row _ Eb 1 _ _ _ he3;have c2:(W3.setCell ⟨g,1,none⟩ (.int .i64 ((skip s j:Nat)+1))).cell? ⟨Eb,2,none⟩=some (.slice a ln cp):=cell_of_row _ Eb 2 _ _ _ he3;(have hE3:Eb<W3.heap.size:=by rw[hO3.size];exact hbe);have HE:Hid (((W3.setCell ⟨g,1,none⟩ (.int .i64 ((skip s j:Nat)+1))).alloc (.cells #[.int .i64 k,.string nm,.slice a ln cp] 69)).heap[Eb]? = some (.cells #[.int .i64 k,.string nm,.slice a ln cp] 69 (0,0))):=(zzf _ _ Eb (by simp;exact hE3)).trans he3;clear HS5 HST HPK hO3 hR3 he3 hvar;go_wp2_with (refine wpList_store_row rfl 69 _ _ rfl Eb #[.int .i64 4,.string ⟨#[]⟩,.slice (some ⟨W3.heap.size,0,none⟩) 1 1] rfl rfl 69 _ HE.out gE rfl (jF _ _ _ _ _) ?_)
      go_roundg (gk - 1)
      case measure=>exact HN.out.2
      case rel=>exact⟨_,_,_,_,_,_,_,_,HN.out.1,HS6.out⟩
     ·have hpv:jD s (skip s j) false=43:=by rw[hk];rfl
      rw[hpv] at HPK;(have HST:Hid (∀W1,jW g wr W1->PAt W1 g s (skip s j) false->tP g s w (((W1.setCell ⟨g,1,none⟩ (.int .i64 ((skip s j:Nat)+1))).alloc (.cells #[.int .i64 k,.string nm,.slice a ln cp] 69)).setRow Eb #[.int .i64 5,.string ⟨#[]⟩,.slice (some ⟨W1.heap.size,0,none⟩) 1 1]) Eb i (skip s j+1) T (node 5 ⟨#[]⟩ [t]) (m+1) 5 ⟨#[]⟩ (some ⟨W1.heap.size,0,none⟩) 1 1):=fun W1 h1 h2=>hH.step hgl e hq hlt hkc 5 hK oo h1 h2);have hvar:=hH.var;(have hsj:skip s j<=200:=by omega);clear hH hk hq hkc hK hpv e hstop P2 q2 q3 hf;(go_wp2_with fail);refine HPK.out.mono ?_;rintro e3 W3 ⟨rfl,hR3,hO3⟩;obtain⟨g0,g1,g2,g3,-⟩:=hR3.cells;have HS5:=HST.out W3 hO3 hR3;have HS6:Hid (tP g s w (((W3.setCell ⟨g,1,none⟩ (.int .i64 ((skip s j:Nat)+1))).alloc (.cells #[.int .i64 k,.string nm,.slice a ln cp] 69)).setRow Eb #[.int .i64 5,.string ⟨#[]⟩,.slice (some ⟨W3.heap.size,0,none⟩) 1 1]) Eb i (skip s j+1) T (node 5 ⟨#[]⟩ [t]) (m+1) 5 ⟨#[]⟩ (some ⟨W3.heap.size,0,none⟩) 1 1):=HS5;have he3:(W3.setCell ⟨g,1,none⟩ (.int .i64 ((skip s j:Nat)+1))).heap[Eb]? = some (.cells #[.int .i64 k,.string nm,.slice a ln cp] 69 (0,0)):=(zzh _ _ _ _ (by show Eb≠g;omega)).trans ((hO3.block _ oo).trans hvar);have c0:(W3.setCell ⟨g,1,none⟩ (.int .i64 ((skip s j:Nat)+1))).cell? ⟨Eb,0,none⟩=some (.int .i64 k):=cell_of_row _ Eb 0 _ _ _ he3;have c1:(W3.setCell ⟨g,1,none⟩ (.int .i64 ((skip s j:Nat)+1))).cell? ⟨Eb,1,none⟩=some (.string nm):=cell_of_row _ Eb 1 _ _ _ he3;have c2:(W3.setCell ⟨g,1,none⟩ (.int .i64 ((skip s j:Nat)+1))).cell? ⟨Eb,2,none⟩=some (.slice a ln cp):=cell_of_row _ Eb 2 _ _ _ he3;(have hE3:Eb<W3.heap.size:=by rw[hO3.size];exact hbe);have HE:Hid (((W3.setCell ⟨g,1,none⟩ (.int .i64 ((skip s j:Nat)+1))).alloc (.cells #[.int .i64 k,.string nm,.slice a ln cp] 69)).heap[Eb]? = some (.cells #[.int .i64 k,.string nm,.slice a ln cp] 69 (0,0))):=(zzf _ _ Eb (by simp;exact hE3)).trans he3;clear HS5 HST HPK hO3 hR3 he3 hvar;go_wp2_with (refine wpList_store_row rfl 69 _ _ rfl Eb #[.int .i64 5,.string ⟨#[]⟩,.slice (some ⟨W3.heap.size,0,none⟩) 1 1] rfl rfl 69 _ HE.out gE rfl (jF _ _ _ _ _) ?_)
      go_roundg (gk - 1)
      case measure=>exact HN.out.2
      case rel=>exact⟨_,_,_,_,_,_,_,_,HN.out.1,HS6.out⟩
     ·have hpv:jD s (skip s j) false=63:=by rw[hk];rfl
      rw[hpv] at HPK;(have HST:Hid (∀W1,jW g wr W1->PAt W1 g s (skip s j) false->tP g s w (((W1.setCell ⟨g,1,none⟩ (.int .i64 ((skip s j:Nat)+1))).alloc (.cells #[.int .i64 k,.string nm,.slice a ln cp] 69)).setRow Eb #[.int .i64 6,.string ⟨#[]⟩,.slice (some ⟨W1.heap.size,0,none⟩) 1 1]) Eb i (skip s j+1) T (node 6 ⟨#[]⟩ [t]) (m+1) 6 ⟨#[]⟩ (some ⟨W1.heap.size,0,none⟩) 1 1):=fun W1 h1 h2=>hH.step hgl e hq hlt hkc 6 hK oo h1 h2);have hvar:=hH.var;(have hsj:skip s j<=200:=by omega);clear hH hk hq hkc hK hpv e hstop P2 q2 q3 hf;(go_wp2_with fail);refine HPK.out.mono ?_;rintro e3 W3 ⟨rfl,hR3,hO3⟩;obtain⟨g0,g1,g2,g3,-⟩:=hR3.cells;have HS5:=HST.out W3 hO3 hR3;have HS6:Hid (tP g s w (((W3.setCell ⟨g,1,none⟩ (.int .i64 ((skip s j:Nat)+1))).alloc (.cells #[.int .i64 k,.string nm,.slice a ln cp] 69)).setRow Eb #[.int .i64 6,.string ⟨#[]⟩,.slice (some ⟨W3.heap.size,0,none⟩) 1 1]) Eb i (skip s j+1) T (node 6 ⟨#[]⟩ [t]) (m+1) 6 ⟨#[]⟩ (some ⟨W3.heap.size,0,none⟩) 1 1):=HS5;have he3:(W3.setCell ⟨g,1,none⟩ (.int .i64 ((skip s j:Nat)+1))).heap[Eb]? = some (.cells #[.int .i64 k,.string nm,.slice a ln cp] 69 (0,0)):=(zzh _ _ _ _ (by show Eb≠g;omega)).trans ((hO3.block _ oo).trans hvar);have c0:(W3.setCell ⟨g,1,none⟩ (.int .i64 ((skip s j:Nat)+1))).cell? ⟨Eb,0,none⟩=some (.int .i64 k):=cell_of_row _ Eb 0 _ _ _ he3;have c1:(W3.setCell ⟨g,1,none⟩ (.int .i64 ((skip s j:Nat)+1))).cell? ⟨Eb,1,none⟩=some (.string nm):=cell_of_row _ Eb 1 _ _ _ he3;have c2:(W3.setCell ⟨g,1,none⟩ (.int .i64 ((skip s j:Nat)+1))).cell? ⟨Eb,2,none⟩=some (.slice a ln cp):=cell_of_row _ Eb 2 _ _ _ he3;(have hE3:Eb<W3.heap.size:=by rw[hO3.size];exact hbe);have HE:Hid (((W3.setCell ⟨g,1,none⟩ (.int .i64 ((skip s j:Nat)+1))).alloc (.cells #[.int .i64 k,.string nm,.slice a ln cp] 69)).heap[Eb]? = some (.cells #[.int .i64 k,.string nm,.slice a ln cp] 69 (0,0))):=(zzf _ _ Eb (by simp;exact hE3)).trans he3;clear HS5 HST HPK hO3 hR3 he3 hvar;go_wp2_with (refine wpList_store_row rfl 69 _ _ rfl Eb #[.int .i64 6,.string ⟨#[]⟩,.slice (some ⟨W3.heap.size,0,none⟩) 1 1] rfl rfl 69 _ HE.out gE rfl (jF _ _ _ _ _) ?_)
      go_roundg (gk - 1)
      case measure=>exact HN.out.2
      case rel=>exact⟨_,_,_,_,_,_,_,_,HN.out.1,HS6.out⟩
  ):p:=h
theorem gNj (g:Nat)(s:ByteArray)(n:Nat)(hs:s.size<=200)(hCH:RCH g s n)(i:Nat)(w:World)(hR:PAt w g s i false)(hi:i<=s.size)(hn:s.size - i<n+1) :
  Calls Tryz.prog 168 #[.pointer (some ⟨g,0,none⟩)] w fun e w' => gX g w w' /\ rO g s w.heap.size i (iB (gZ n) (left s i)) e w' := by
 have hmx:Tryz.prog.follows .mixedOrders=true:=by kernel_rfl
 have hgl:=hR.lt
 have HG:Hid (g<w.heap.size/\s.size<=200):=⟨hgl,hs⟩
 have HPK0:Hid (∀o,Calls Tryz.prog 125 #[.pointer (some ⟨g,0,none⟩)] (w.alloc o) fun r w' => r=.returned (.int .u8 (jD s (skip s i) false))/\PAt w' g s (skip s i) false/\jW g (w.alloc o) w'):=fun o=>mF g s i false _ (hR.alloc o) hi oo
 have HPK:Hid (∀W j f,PAt W g s j f->j<=s.size->Calls Tryz.prog 125 #[.pointer (some ⟨g,0,none⟩)] W fun r w' => r=.returned (.int .u8 (jD s (skip s j) f))/\PAt w' g s (skip s j) f/\jW g W w'):=fun W j f h hj=>mF g s j f W h hj oo
 have HCH:Hid (RCH g s n):=hCH
 have HOPEN:Hid (∀q,left s (skip s i)=40::q->jD s (skip s i) false=max ((40:UInt8).toNat:Int) 1->left s (skip s i+1)=q->skip s i<s.size->Calls Tryz.prog 168 #[.pointer (some ⟨g,0,none⟩)] w fun e w' => gX g w w' /\ rO g s w.heap.size i (iB (gZ n) (left s i)) e w'):=fun q h1 h2 h3 h4=>gNi g s n hs hCH i w hR hi hn q h1 h2 h3 h4
 obtain⟨P2,q2,q3⟩:=Pl.skip hi
 have HI:Hid (i<=s.size/\s.size - i<n+1/\Pl s (skip s i)/\i<=skip s i):=⟨hi,hn,P2,q2⟩
 clear hR hCH hn q3
 by_cases helse:left s (skip s i)=[]\/∃c q,left s (skip s i)=c::q/\gH c=false/\c≠40
 ·have HE:Hid (iB (gZ n) (left s i)=(none,left s (skip s i))):=gRl hi helse
  have hpk:(¬(97<=jD s (skip s i) false/\jD s (skip s i) false<=122))/\jD s (skip s i) false≠40:=by
   rcases tX hi with ⟨hl,hk⟩ | ⟨c,q,hl,hk,hq,hlt⟩
   ·rw[hk];exact⟨oo,by decide⟩
   ·rcases helse with h | ⟨c', q', h,h1,h2⟩
    ·rw[h] at hl;cases hl
    ·rw[h] at hl
     cases hl;rw[hk];have h3:=oH c;rw[h1] at h3;unfold pL at h3;rw[Bool.and_eq_false_iff,decide_eq_false_iff_not,decide_eq_false_iff_not] at h3;exact⟨oo,fun e=>h2 ((qJ (n:=40) (by decide) (by decide)).1 e)⟩
  generalize jD s (skip s i) false=C at *;obtain⟨p1,p2⟩:=hpk;have b40:(C==40)=false:=by rw[beq_eq_false_iff_ne];exact p2
  have hsplit:decide (97<=C)=false\/(97<=C/\decide (C<=122)=false):=by
   by_cases h:97<=C
   ·exact .inr ⟨h,by simp;omega⟩
   ·exact .inl (by simpa using h)
  clear helse p1 p2 HPK HCH P2 q2;rcases hsplit with b1 | ⟨b1,b2⟩
  all_goals
   go_enter Tryz.func168,Tryz.ntmps168;(go_wp2_with fail);refine(HPK0.out _).mono ?_;rintro e1 W1 ⟨rfl,hR1,hO1⟩;have hgl:=HG.out.1;(have hs1:W1.heap.size=w.heap.size+1:=by rw[hO1.size];simp);have hz1:W1.heap[w.heap.size]? = some (.cells #[.int .i64 0,.string ⟨#[]⟩,.slice none 0 0] 69 (0,0)):=(hO1.block _ oo).trans (heap_alloc_new w _);have hK1:gX g w W1:=((gX.refl g w).alloc _).trans hO1.kept;have hRa:PAt (W1.alloc (.cells #[.int .i64 0,.string ⟨#[]⟩,.slice none 0 0] 69)) g s (skip s i) false:=hR1.alloc _;obtain⟨g0,g1,g2,g3,g4⟩:=hRa.cells;obtain⟨W2,hW2⟩:∃W2,W2=(W1.alloc (.cells #[.int .i64 0,.string ⟨#[]⟩,.slice none 0 0] 69)).setCell ⟨g,2,none⟩ (.bool true):=⟨_,rfl⟩;(have hP2:PAt W2 g s (skip s i) true:=by rw[hW2];exact hRa.err);(have hblk:∀b,b≠g->W2.heap[b]? = (W1.alloc (.cells #[.int .i64 0,.string ⟨#[]⟩,.slice none 0 0] 69)).heap[b]? := fun b hb=>by rw[hW2];exact zzh _ _ _ _ hb);have hK2:gX g w W2:=(hK1.alloc _).trans ⟨by rw[hW2];rfl,by rw[hW2];rfl,by rw[hW2];rfl,by rw[hW2];simp,fun b _ hb=>hblk b hb⟩;have hev:W2.heap[W1.heap.size]? = some (.cells #[.int .i64 0,.string ⟨#[]⟩,.slice none 0 0] 69 (0,0)):=(hblk _ oo).trans (heap_alloc_new W1 _);have c0:W2.cell? ⟨W1.heap.size,0,none⟩=some (.int .i64 0):=cell_of_row _ _ 0 _ _ _ hev;have c1:W2.cell? ⟨W1.heap.size,1,none⟩=some (.string ⟨#[]⟩):=cell_of_row _ _ 1 _ _ _ hev;have c2:W2.cell? ⟨W1.heap.size,2,none⟩=some (.slice none 0 0):=cell_of_row _ _ 2 _ _ _ hev;have HZ:Hid (W2.heap[w.heap.size]? = some (.cells #[.int .i64 0,.string ⟨#[]⟩,.slice none 0 0] 69 (0,0))):=(hblk _ oo).trans ((zzf W1 _ _ oo).trans hz1);(have HF:Hid (∀cs,gX g w (W2.setRow w.heap.size cs)/\PAt (W2.setRow w.heap.size cs) g s (skip s i) true):=fun cs=>⟨hK2.setRow _ _ (zzb _),hP2.setRow _ _ oo⟩);rw[hW2] at c0 c1 c2;have HW2:Hid (W2=(W1.alloc (.cells #[.int .i64 0,.string ⟨#[]⟩,.slice none 0 0] 69)).setCell ⟨g,2,none⟩ (.bool true)):=hW2;clear hgl hs1 hz1 hK1 hRa hP2 hblk hK2 hev hR1 hO1 HPK0 hW2;(go_wp2_with (rw[<-HW2.out];refine wpList_store_row rfl 69 _ _ rfl w.heap.size #[.int .i64 0,.string ⟨#[]⟩,.slice none 0 0] rfl rfl 69 _ HZ.out gE rfl (jF _ _ _ _ _) ?_));refine bodyPost_ret (results_cell_row rfl _ _ w.heap.size 69 #[.int .i64 0,.string ⟨#[]⟩,.slice none 0 0] (0,0) _ rfl (setRow_heap _ _ _ _ _ _ HZ.out) Tryz.underlying69 rfl gE) rfl ?_;exact⟨(HF.out _).1,skip s i,node 0 ⟨#[]⟩ [],1,(0,⟨#[]⟩,none,0,0),true,(HF.out _).2,HI.out.2.2.1,HI.out.2.2.2,lC.of (by intro h;omega),by rw[iN];decide,ExA.leaf _ _ 0 0 ⟨#[]⟩ none 0,rfl,.inr ⟨rfl,HE.out,by rw[iC,List.length_nil];have:=HI.out.2.2.2;omega⟩⟩
 ·rcases tX hi with ⟨hl,hk⟩ | ⟨c,q,hl,hk,hq,hlt⟩
  ·exact absurd (.inl hl) helse
  ·by_cases hlet:gH c=true
   ·have hlc:=oH c
    rw[hlet] at hlc;unfold pL at hlc;rw[Bool.and_eq_true,decide_eq_true_eq,decide_eq_true_eq] at hlc;(have hpv:jD s (skip s i) false=(c.toNat:Int):=by rw[hk];omega);rw[hpv] at HPK0;obtain⟨b1,b2⟩:=hlc;generalize (c.toNat:Int)=C at *;obtain⟨e,hee⟩:∃e,e=skip s i+((left s (skip s i)).takeWhile gH).length:=⟨_,rfl⟩;have hpn:=gRk hi (gZ n) hl hlet hee;obtain⟨T,hTT⟩:∃T,iY (node 1 (s.extract (skip s i) e) []) (left s e)=T:=⟨_,rfl⟩;rw[hTT] at hpn;have HT:Hid (iB (gZ n) (left s i)=(some T.1,T.2)):=hpn;(have hpos:0<((left s (skip s i)).takeWhile gH).length:=by rw[hl,List.takeWhile_cons,hlet];simp);have hlen:=iL s (skip s i)
    have hwl:((left s (skip s i)).takeWhile gH).length<=(left s (skip s i)).length:=by
     have:=congrArg List.length (pH (p:=gH) (left s (skip s i))).1
     rw[List.length_take] at this;omega
    have HEE:Hid (e=skip s i+((left s (skip s i)).takeWhile gH).length/\skip s i<e/\e<=s.size/\iY (node 1 (s.extract (skip s i) e) []) (left s e)=T):=⟨hee,oo,oo,hTT⟩;(have hle2:skip s i<=s.size:=by omega);clear hpn hTT hee hpos hlen hwl hpv hk hlet helse hq hl HPK HCH P2;go_enter Tryz.func168,Tryz.ntmps168;(go_wp2_with fail);refine(HPK0.out _).mono ?_;rintro e1 W1 ⟨rfl,hR1,hO1⟩;(have hs1:W1.heap.size=w.heap.size+1:=by rw[hO1.size];simp);have hz1:W1.heap[w.heap.size]? = some (.cells #[.int .i64 0,.string ⟨#[]⟩,.slice none 0 0] 69 (0,0)):=(hO1.block _ oo).trans (heap_alloc_new w _);have hK1:gX g w W1:=((gX.refl g w).alloc _).trans hO1.kept;obtain⟨Eb,hEb⟩:∃Eb,W1.heap.size=Eb:=⟨_,rfl⟩;obtain⟨Wa,hWa⟩:∃Wa,Wa=W1.alloc (.cells #[.int .i64 0,.string ⟨#[]⟩,.slice none 0 0] 69):=⟨_,rfl⟩;have hPa:PAt Wa g s (skip s i) false:=by rw[hWa];exact hR1.alloc _
    have HW:Hid (gX g w Wa/\Wa.heap[w.heap.size]? = some (.cells #[.int .i64 0,.string ⟨#[]⟩,.slice none 0 0] 69 (0,0))/\Wa.heap[Eb]? = some (.cells #[.int .i64 0,.string ⟨#[]⟩,.slice none 0 0] 69 (0,0))/\Eb=w.heap.size+1/\Wa.heap.size=Eb+1):=by
     refine⟨by rw[hWa];exact hK1.alloc _,?_,?_,oo,by rw[hWa];simp;omega⟩
     ·rw[hWa,zzf W1 _ _ oo];exact hz1
     ·rw[hWa,<-hEb];exact heap_alloc_new W1 _
    obtain⟨g0,g1,g2,g3,g4⟩:=hPa.cells;rw[hWa] at g0 g1 g2 g3 g4;clear hs1 hz1 hK1 hR1 hO1 HPK0;go_wp2;rw[<-hWa];clear g0 g1 g2 g3 g4 hWa
    go_loopg [] (s.size+1) (fun f w' => ∃j:Nat,skip s i<=j/\j<=s.size/\s.size+1<=j+f/\((left s (skip s i)).take (j - skip s i)).all gH=true/\PAt w' g s j false/\jW g Wa w')
    case atStart=>exact⟨skip s i,zzb _,hle2,oo,by rw[Nat.sub_self];rfl,hPa,jW.refl _ _⟩
    case round=>
     obtain⟨j,hj0,hj,hf,hall,hPj,hO⟩:=hrel;obtain⟨c0,c1,c2,f1,-⟩:=hPj.cells;clear hPa
     by_cases hlt2:j<s.size
     ·have l1:(j:Int)<(s.size:Int):=by omega
      have hat:(left s (skip s i))[j - skip s i]? = some (s[j]'hlt2):=by
       unfold left;rw[List.getElem?_drop,show skip s i+(j - skip s i)=j from by omega,<-kV];exact pU s j hlt2
      have hlj:=oH (s[j]'hlt2);cases hcj:gH (s[j]'hlt2) with
      | true=>
       rw[hcj] at hlj;unfold pL at hlj;rw[Bool.and_eq_true,decide_eq_true_eq,decide_eq_true_eq] at hlj;obtain⟨v1,v2⟩:=hlj
       have HA:Hid (((left s (skip s i)).take (j+1 - skip s i)).all gH=true):=by
        show _=_
        rw[show j+1 - skip s i=(j - skip s i)+1 from by omega,List.take_add_one,hat,List.all_append,hall];simp[hcj]
       (have HN:Hid (∀q,PAt ((wr.setCell ⟨g,1,none⟩ (.int .i64 ((j:Int)+1))).drewN q) g s (j+1) false):=fun q=>hPj.next (j+1));clear hall hat hPj hcj;go_wp2_with fail
       go_quiet (fail)
       go_wp2
       go_roundg (gk - 1)
       case measure=>omega
       case rel=>exact⟨j+1,oo,oo,oo,HA.out,HN.out _,(hO.setCell _ _).drewN _⟩
      | false=>
       have hje:j=e:=by
        have:=yG (p:=gH) (left s (skip s i)) (j - skip s i) (by rw[iL];omega) hall (fun c hc=>by rw[hat] at hc;cases hc;exact hcj)
        have:=HEE.out.1
        omega
       subst hje;rw[hcj] at hlj;unfold pL at hlj;rw[Bool.and_eq_false_iff,decide_eq_false_iff_not,decide_eq_false_iff_not] at hlj
       have hsp:decide ((97:Int)<=((s[j]'hlt2).toNat:Int))=false\/((97:Int)<=((s[j]'hlt2).toNat:Int)/\decide (((s[j]'hlt2).toNat:Int)<=122)=false):=by
        by_cases h:(97:Int)<=((s[j]'hlt2).toNat:Int)
        ·exact .inr ⟨h,by simp;omega⟩
        ·exact .inl (by simpa using h)
       clear hall hat hlj hcj;rcases hsp with v1 | ⟨v1,v2⟩
       ·exact k00
       ·exact k00
     ·obtain rfl:j=s.size:=by omega
      have hje:s.size=e:=by
       have:=yG (p:=gH) (left s (skip s i)) (s.size - skip s i) (by rw[iL];omega) hall (fun c hc=>by
        rw[List.getElem?_eq_none (by rw[iL];omega)] at hc
        cases hc)
       have:=HEE.out.1
       omega
      (have l1:decide ((s.size:Int)<(s.size:Int))=false:=by simp);clear hall;go_wp2_with fail
      go_quiet (fail)
      (go_wp2_with fail);subst hje;obtain⟨Wd,hWd⟩:∃Wd,wr.drewN nq=Wd:=⟨_,rfl⟩;(have hPd:PAt Wd g s s.size false:=by rw[<-hWd];exact hPj);(have hOd:jW g Wa Wd:=by rw[<-hWd];exact hO.drewN _);rw[hWd];obtain⟨hKa,hza,hea,hEb1,hsa⟩:=HW.out;obtain⟨-,he1,he2,hsT⟩:=HEE.out;have hed:Wd.heap[Eb]? = some (.cells #[.int .i64 0,.string ⟨#[]⟩,.slice none 0 0] 69 (0,0)):=(hOd.block _ oo).trans hea;have hzd:Wd.heap[w.heap.size]? = some (.cells #[.int .i64 0,.string ⟨#[]⟩,.slice none 0 0] 69 (0,0)):=(hOd.block _ oo).trans hza;have hKd:gX g w Wd:=hKa.trans hOd.kept;(have hgE:Eb≠g:=by omega);have HED:Hid (Wd.drew.heap[Eb]? = some (.cells #[.int .i64 0,.string ⟨#[]⟩,.slice none 0 0] 69 (0,0))):=hed
      have HS:Hid (tP g s w (Wd.drew.setRow Eb #[.int .i64 1,.string (s.extract (skip s i) s.size),.slice none 0 0]) Eb i s.size T (node 1 (s.extract (skip s i) s.size) []) 1 1 (s.extract (skip s i) s.size) none 0 0) :=
       ⟨PAt.setRow (w:=Wd.drew) hPd _ _ hgE,oo,hsT,lC.of (by intro h;omega),by rw[iN];decide,oo,by rw[iC,List.length_nil];omega,gX.setRow (w' := Wd.drew) ⟨hKd.os,hKd.tape,hKd.output,hKd.size,hKd.block⟩ _ _ oo,(setRow_other _ _ _ _ oo).trans hzd,setRow_heap _ _ _ _ _ _ hed,oo,ExA.leaf _ _ 0 1 _ none 0⟩
      (have i1:((skip s i:Nat):Int)<=((s.size:Nat):Int):=by omega);(have i2:((s.size:Nat):Int)<=(s.size:Int):=by omega);clear hPj hO hWd hOd hed hzd hKd hKa hza hea hsa he1 he2 hsT HW HEE c0 c1 c2 f1 hEb1;refine wp_region_held_drew (S:=fun w' => PAt w' g s s.size false) hmx (show PAt Wd.drew g s s.size false from hPd) (fun hS=>?_);refine gA 0 (some 65) hS ?_ (hy:=by intro w hSw;obtain⟨s0,s1,s2,s3,s4⟩:=PAt.cells hSw;go_simp;with_reducible rfl);refine gA 1 (some 66) hS ?_ (hy:=by intro w hSw;obtain⟨s0,s1,s2,s3,s4⟩:=PAt.cells hSw;go_simp;with_reducible rfl);refine gA 2 (some 67) hS ?_ (hy:=by intro w hSw;obtain⟨s0,s1,s2,s3,s4⟩:=PAt.cells hSw;go_simp;with_reducible rfl);refine gA 3 (some 68) hS ?_ (hy:=by intro w hSw;obtain⟨s0,s1,s2,s3,s4⟩:=PAt.cells hSw;go_simp;with_reducible rfl);refine gA 4 (some 69) hS ?_ (hy:=by intro w hSw;obtain⟨s0,s1,s2,s3,s4⟩:=PAt.cells hSw;go_simp;with_reducible rfl);refine gA 5 (some 70) hS ?_ (hy:=by intro w hSw;obtain⟨s0,s1,s2,s3,s4⟩:=PAt.cells hSw;go_simp;with_reducible rfl);refine gA 6 (some 71) hS ?_ (hy:=by intro w hSw;obtain⟨s0,s1,s2,s3,s4⟩:=PAt.cells hSw;go_simp;with_reducible rfl);refine gA 7 (some 72) hS ?_ (hy:=by intro w hSw;obtain⟨s0,s1,s2,s3,s4⟩:=PAt.cells hSw;go_simp;with_reducible rfl);refine gA 8 (some 73) hS ?_ (hy:=by intro w hSw;obtain⟨s0,s1,s2,s3,s4⟩:=PAt.cells hSw;go_simp;with_reducible rfl);refine gA 9 (some 74) hS ?_ (hy:=by intro w hSw;obtain⟨s0,s1,s2,s3,s4⟩:=PAt.cells hSw;go_simp;with_reducible rfl);refine gA 10 (some 75) hS ?_ (hy:=by intro w hSw;obtain⟨s0,s1,s2,s3,s4⟩:=PAt.cells hSw;go_simp;with_reducible rfl);refine gT 11 kr rfl (fun K hK=>?_);rw[if_pos (by rfl)];refine wp_store_row 69 _ _ rfl Eb #[.int .i64 1,.string (s.extract (skip s i) s.size),.slice none 0 0] rfl rfl 69 _ HED.out gE rfl (jF _ _ _ _ _) ?_;refine hK.out _ _ (PAt.setRow (w:=Wd.drew) hPd _ _ hgE) (fun _=>?_);clear hK K
      try simp only[Act.put,List.setIfInBounds_toArray]
      refine wpAnyH_done kr ?_ _;clear hPd hS HED hgE i1 i2;exact k01
   ·have h40:c=40:=by
     cases h:decide (c=40) with
     | true=>exact of_decide_eq_true h
     | false=>exact absurd (.inr ⟨c,q,hl,by simpa using hlet,of_decide_eq_false h⟩) helse
    subst h40;exact HOPEN.out q hl hk hq hlt
structure nY (kd:Int) (g:Nat) (s:ByteArray) (f:Bool) (w wr:World) (i0 i:Nat) (l:List (DataW Unit)) (v:Value) (n:Nat):Prop where
 pat:PAt wr g s i f
 kept:gX g w wr
 good:∀x∈l,lC x
 kinds:∀x∈l,iE x≠99
 len:l.length=n
 pos:0<n
 lei:n+i0<=i+1
 flat:(jK kd l).length+i0<=i+1
 flat0:f=false->(jK kd l).length+i0<=i/\n+i0<=i
 wid:∀x∈l,(subs x).length+i0<=i+1
 wid0:f=false->∀x∈l,(subs x).length+i0<=i
 big:w.heap.size<wr.heap.size
 zero:wr.heap[w.heap.size]? = some (.cells #[.int .i64 0,.string ⟨#[]⟩,.slice none 0 0] 69 (0,0))
 rows:∃m rs,wr.ownsRow (w.heap.size+1) 69 3 v n (mR rs)/\lH (fun b=>w.heap.size<b/\v.ownBlock≠some b) wr m l rs
def Wid (f:Bool)(t:DataW Unit)(i j:Nat):Prop:=(f=false/\i<j/\(subs t).length+i<=j)\/(f=true/\i<=j/\(subs t).length+i<=j+1)
theorem Wid.flat {kd:Int}{f:Bool}{t:DataW Unit}{i j:Nat}(h:Wid f t i j):(if iE t=kd then subs t else [t]).length+i<=j+1/\(f=false->(if iE t=kd then subs t else [t]).length+i<=j):=by
 rcases h with ⟨rfl,h1,h2⟩ | ⟨rfl,h1,h2⟩
 ·split
  ·exact⟨oo,fun _=>h2⟩
  ·rw[List.length_singleton];exact⟨oo,fun _=>by omega⟩
 ·split
  ·exact⟨h2,fun e=>by cases e⟩
  ·rw[List.length_singleton];exact⟨oo,fun e=>by cases e⟩
theorem k91{p:Prop}(h:p:=by
  rcases hw with ⟨rfl,h1,h2⟩ | ⟨rfl,h1,h2⟩
  ·exact⟨oo,fun _=>h1,oo,fun _=>h2⟩
  ·exact⟨h1,fun e=>by (cases e),h2,fun e=>by (cases e)⟩
  ):p:=h
theorem nY.start (kd:Int){g:Nat}{s:ByteArray}{f:Bool}{w W1:World}(hgw:g<w.heap.size){o:Obj}(ho:o=.cells #[.int .i64 0,.string ⟨#[]⟩,.slice none 0 0] 69)(hK:gX g (w.alloc o) W1){i0 j:Nat}(hP:PAt W1 g s j f){t:DataW Unit}(hG:lC t)(h99:iE t≠99){m:Nat}{k:Int}{nm:ByteArray}{a:Option Addr}{ln cp:Nat}
  (hX:ExA (fun b=>(w.alloc o).heap.size<=b) W1 m t (.agg #[.int .i64 k,.string nm,.slice a ln cp]))(hw:Wid f t i0 j) :
  nY kd g s f w (W1.alloc (.cells #[.int .i64 k,.string nm,.slice a ln cp] 69)) i0 j [t] (.slice (some ⟨W1.heap.size,0,none⟩) 1 1) 1:=by
 have hs:=hK.size
 rw[World.size_alloc] at hs
 obtain⟨f1,f2⟩:=hw.flat (kd:=kd)
 have hfl:jK kd [t]=if iE t=kd then subs t else [t]:=by simp[jK]
 have hij:i0<=j/\(f=false->i0<j)/\(subs t).length+i0<=j+1/\(f=false->(subs t).length+i0<=j):=by
  exact k91
 refine⟨hP.alloc _,((gX.refl g w).alloc o).trans (hK.alloc _),?_,?_,rfl,oo,oo,by rw[hfl];exact f1,fun e=>⟨by rw[hfl];exact f2 e,by have:=hij.2.1 e;omega⟩,?_,?_,by rw[World.size_alloc];omega,?_,m,[(k,nm,a,ln,cp)],World.ownsRow_lit W1 #[.int .i64 k,.string nm,.slice a ln cp] 1 oo (by decide) rfl,?_⟩
 ·intro x hx
  obtain rfl:x=t:=by simpa using hx
  exact hG
 ·intro x hx
  obtain rfl:x=t:=by simpa using hx
  exact h99
 ·intro x hx
  obtain rfl:x=t:=by simpa using hx
  exact hij.2.2.1
 ·intro e x hx
  obtain rfl:x=t:=by simpa using hx
  exact hij.2.2.2 e
 ·rw[zzf W1 _ _ oo,hK.block _ (by rw[World.size_alloc];omega) oo,heap_alloc_new,ho]
 ·refine lH.one (r:=(k,nm,a,ln,cp)) (ExA.kept (w:=W1) (by rw[World.size_alloc];omega) (fun b hb hA=>⟨⟨?_,?_⟩,zzf W1 _ b hb⟩) _ _ _ hX)
  ·rw[World.size_alloc] at hA
   omega
  ·intro e
   have e2:W1.heap.size=b:=zzo e;omega
theorem nY.append {kd:Int}{g:Nat}{s:ByteArray}{f:Bool}{w wr:World}{i0 i i1:Nat}{l:List (DataW Unit)}{v:Value}{n:Nat}(h:nY kd g s false w wr i0 i l v n)(hgw:g<w.heap.size){W1:World}(hK:gX g wr W1){j:Nat}(hP:PAt W1 g s j f)(hii:i<=i1){t:DataW Unit}(hG:lC t)(h99:iE t≠99){m:Nat}{k:Int}{nm:ByteArray}{a:Option Addr}{ln cp:Nat}
  (hX:ExA (fun b=>wr.heap.size<=b) W1 m t (.agg #[.int .i64 k,.string nm,.slice a ln cp]))(hw:Wid f t i1 j)(hj:j<=200) :
  ∃v' W3,(Builtin.append_ #[67,67] 67 #[v,.slice (some ⟨W1.heap.size,0,none⟩) 1 1]).run Tryz.prog (W1.alloc (.cells #[.int .i64 k,.string nm,.slice a ln cp] 69))=.ok v' W3/\nY kd g s f w W3 i0 j (l++[t]) v' (n+1):=by
 obtain⟨m0,rs,hown,hrows⟩:=h.rows
 have hsz:w.heap.size<=wr.heap.size:=h.kept.size
 have hbg:=h.big
 have hsz2:=hK.size
 have hlei:=h.lei
 have hfl:=h.flat
 obtain⟨hfl0,hle0⟩:=h.flat0 rfl
 obtain⟨f1,f2⟩:=hw.flat (kd:=kd)
 have hij:i1<=j/\(f=false->i1<j)/\(subs t).length+i1<=j+1/\(f=false->(subs t).length+i1<=j):=by
  exact k91
 obtain⟨Y,hY⟩:∃Y:Obj,Y=.cells #[.int .i64 k,.string nm,.slice a ln cp] 69:=⟨_,rfl⟩
 rw[<-hY]
 have hne:∀k,v.ownBlock=some k->k≠g:=fun k hk=>by have:=(kQ hown hk).1;omega
 have hown1:W1.ownsRow (w.heap.size+1) 69 3 v n (mR rs):=uM hown fun k hk=>hK.block k (kQ hown hk).2 (hne k hk)
 have hown2:(W1.alloc Y).ownsRow (w.heap.size+1) 69 3 v n (mR rs):=hown1.alloc Y
 have hrows2:lH (fun b=>w.heap.size<b/\v.ownBlock≠some b) (W1.alloc Y) m0 l rs:=hrows.kept (by rw[World.size_alloc];omega) fun b hb hA=>⟨hA,(zzf W1 Y b oo).trans (hK.block b hb (by have:=hA.1;omega))⟩
 have hX2:lH (fun b=>w.heap.size<b/\v.ownBlock≠some b) (W1.alloc Y) m [t] [(k,nm,a,ln,cp)]:=lH.one (ExA.kept (w:=W1) (by rw[World.size_alloc];omega) (fun b hb hA=>⟨⟨oo,fun e=>by have:=(kQ hown e).2;omega⟩,zzf W1 Y b hb⟩) _ _ _ hX)
 have hall:lH (fun b=>w.heap.size<b/\v.ownBlock≠some b) (W1.alloc Y) (max m0 m) (l++[t]) (rs++([(k,nm,a,ln,cp)]:List Raw)):=(hrows2.upto oo).append (hX2.upto oo)
 have hcell:∀j,(W1.alloc Y).cell? ⟨W1.heap.size,j,none⟩=(#[Value.int .i64 k,.string nm,.slice a ln cp]:Array Value)[j]? := fun j=>by
  have:=heap_alloc_new W1 Y
  rw[hY] at this ⊢;exact cell_of_row _ _ j _ _ _ this
 obtain⟨v', W3,hrun,ho,hgr,hat⟩:=wY (qs:=[(k,nm,a,ln,cp)]) hown2 (by rw[World.size_alloc];omega) W1.heap.size 0 1 1 rfl (fun j u hj=>by
  rw[rD];refine vE [((k,nm,a,ln,cp):Raw)] 0 (fun i x hx=>?_) j u hj;cases i with
  | zero=>
   have hx2:((k,nm,a,ln,cp):Raw)=x:=zzo hx;subst hx2;exact⟨hcell 0,hcell 1,hcell 2⟩
  | succ i=>cases hx) oo
 have hblk:∀b,b<W1.heap.size->v.ownBlock≠some b->W3.heap[b]? = W1.heap[b]? := fun b hb hn=>(hgr.block b (by rw[World.size_alloc];omega) (fun e=>hn e.symm)).trans (zzf W1 Y b hb)
 have hs3:=hgr.size
 rw[World.size_alloc] at hs3
 refine⟨v', W3,hrun,⟨?_,?_,?_,?_,?_,oo,oo,?_,?_,?_,?_,oo,?_,max m0 m,rs++([(k,nm,a,ln,cp)]:List Raw),ho,?_⟩⟩
 ·exact(hblk g oo (fun e=>hne g e rfl)).trans hP
 ·refine⟨hgr.os.trans (hK.os.trans h.kept.os),hgr.tape.trans (hK.tape.trans h.kept.tape),hgr.output.trans (hK.output.trans h.kept.output),oo,fun k hk hg=>?_⟩
  rw[hblk k oo (fun e=>by have:=(kQ hown e).1;omega),hK.block k oo hg,h.kept.block k hk hg]
 ·exact k116
 ·intro x hx
  rcases List.mem_append.1 hx with hx | hx
  ·exact h.kinds x hx
  ·obtain rfl:x=t:=by simpa using hx
   exact h99
 ·rw[List.length_append,h.len,List.length_singleton]
 ·rw[wV,List.length_append]
  omega
 ·intro e
  have:=f2 e
  have:=hij.2.1 e
  rw[wV,List.length_append];exact⟨oo,oo⟩
 ·intro x hx
  rcases List.mem_append.1 hx with hx | hx
  ·have:=h.wid x hx
   omega
  ·obtain rfl:x=t:=by simpa using hx
   have:=hij.2.2.1
   omega
 ·intro e x hx
  have:=hij.2.1 e
  rcases List.mem_append.1 hx with hx | hx
  ·have:=h.wid0 rfl x hx
   omega
  ·obtain rfl:x=t:=by simpa using hx
   have:=hij.2.2.2 e
   omega
 ·rw[hblk _ oo (fun e=>by have:=(kQ hown e).1;omega),hK.block _ oo oo]
  exact h.zero
 ·refine hall.kept (by rw[World.size_alloc];omega) fun b hb hA=>⟨⟨hA.1,?_⟩,hgr.block b hb (fun e=>hA.2 e.symm)⟩
  rcases hat with e | e
  ·rw[e];exact hA.2
  ·rw[e]
   intro e2;cases e2;omega
theorem nY.next {kd:Int}{g:Nat}{s:ByteArray}{w wr:World}{i0 i:Nat}{l:List (DataW Unit)}{v:Value}{n:Nat}(h:nY kd g s false w wr i0 i l v n)(hgw:g<w.heap.size){W:World}(hK:gX g wr W){j:Nat}(hP:PAt W g s j false)(hij:i<=j):nY kd g s false w W i0 j l v n:=by
 obtain⟨m0,rs,hown,hrows⟩:=h.rows
 have hle:=h.lei
 have hbg:=h.big
 have hsz:=hK.size
 have hfl:=h.flat
 refine⟨hP,h.kept.trans hK,h.good,h.kinds,h.len,h.pos,oo,oo,fun e=>by have:=h.flat0 e;omega,fun x hx=>by have:=h.wid x hx;omega,fun e x hx=>by have:=h.wid0 e x hx;omega,oo,?_,m0,rs,?_,?_⟩
 ·exact(hK.block _ hbg oo).trans h.zero
 ·exact k139
 ·exact hrows.kept hsz fun b hb hA=>⟨hA,hK.block b hb (by have:=hA.1;omega)⟩
theorem nY.joins {kd:Int}(hkd:kd=2\/kd=3){g:Nat}{s:ByteArray}{f:Bool}{w wr:World}{i0 i:Nat}{l:List (DataW Unit)}{v:Value}{n:Nat}(h:nY kd g s f w wr i0 i l v n)(_hgw:g<w.heap.size)(hi:i<=200) :
  Calls Tryz.prog 157 #[.int .i64 kd,v] wr fun e w' => gX g w w' /\ PAt w' g s i f/\w'.heap[w.heap.size]? = some (.cells #[.int .i64 0,.string ⟨#[]⟩,.slice none 0 0] 69 (0,0))/\w.heap.size<w'.heap.size/\∃r m', e=.returned (jI r)/\ExA (fun b=>w.heap.size<b) w' m' (jV kd l) (jI r)/\lC (jV kd l)/\iE (jV kd l)≠99/\(subs (jV kd l)).length+i0<=i+1/\(f=false->(subs (jV kd l)).length+i0<=i/\i0<i):=by
 obtain⟨m0,rs,hown,hrows⟩:=h.rows
 have hn:=h.pos
 obtain⟨n', rfl⟩:∃n', n=n' + 1:=⟨n - 1,oo⟩
 obtain⟨b,cap,rfl,_,_⟩:∃b cap,v=.slice (some ⟨b,0,none⟩) (n' + 1) cap/\w.heap.size+1<=b/\b<wr.heap.size:=by
  obtain⟨_,⟨_,h0⟩ | ⟨b,cap,cur,hv,hb,hgb,_⟩⟩:=hown
  ·cases h0
  ·exact⟨b,cap,hv,hb,(zza.1 hgb).1⟩
 have hbb:=kQ hown (k:=b) rfl
 have hbg:=h.big
 have hfl:=h.flat
 have hl0:l≠[]:=fun e=>by have:=h.len;rw[e] at this;cases this
 obtain⟨hG,hcase⟩:=gGw hkd l h.good hl0
 have hL:hDn wr (some ⟨b,0,none⟩) (n' + 1) m0 (w.heap.size+1) l rs:=⟨b,0,rfl,hbb.2,h.len,hrows.kept (zzb _) fun x _ hA=>⟨by have:=hA.1;omega,rfl⟩,hown.cells rfl⟩
 refine(gTc kd hkd (some ⟨b,0,none⟩) (n' + 1) cap m0 (w.heap.size+1) l rs wr hL oo h.good oo oo).mono ?_
 rintro e w' ⟨hB,r,m', rfl,hX⟩
 have hKw:gX g wr w' := gX.of_below hB
 refine⟨h.kept.trans hKw,h.pat.below hB,(hB.block _ hbg).trans h.zero,by have:=hB.size;omega,r,m', rfl,hX.mono fun b _ hA=>by omega,hG,?_,?_,?_⟩
 ·rcases hcase with ⟨_,_,h3⟩ | ⟨_,_,h3⟩
  ·exact h.kinds _ h3
  ·rw[h3,iN]
   omega
 ·rcases hcase with ⟨_,_,h3⟩ | ⟨_,_,h3⟩
  ·exact h.wid _ h3
  ·rw[h3,iC]
   exact hfl
 ·intro e
  obtain⟨q1,q2⟩:=h.flat0 e;refine⟨?_,oo⟩;rcases hcase with ⟨_,_,h3⟩ | ⟨_,_,h3⟩
  ·exact h.wid0 e _ h3
  ·rw[h3,iC]
   exact q1
end Go.Proofs.YtjkebndkeamijaaGreatDoor
