/-
  PROVED HERE: the document's own part at brackets, where alt reads what stands in them: what it returns and leaves.
-/
import Derived.Test.YtjkebndkeamijaaGreatDoorCA28
set_option maxRecDepth 100000
set_option maxHeartbeats 16000000
namespace Go.Proofs.YtjkebndkeamijaaGreatDoor
open Go.RowKit
theorem k01{p:Prop}(h:p:=by
  go_wp2
  go_loopg [] (s.size+1) (fun f w' => ∃j t m k nm a ln cp,s.size - j<f/\tP g s w w' Eb i j T t m k nm a ln cp)
  case atStart=>exact⟨_,_,_,_,_,_,_,_,oo,HS.out⟩
  case round=>
   clear HS;obtain⟨j,t,m,k,nm,a,ln,cp,hf,hH⟩:=hrel;have HPK:Hid (Calls Tryz.prog 125 #[.pointer (some ⟨g,0,none⟩)] wr fun r w' => r=.returned (.int .u8 (jD s (skip s j) false))/\PAt w' g s (skip s j) false/\jW g wr w'):=mF g s j false wr hH.pat hH.le (by have:=HG.out.2;omega);obtain⟨P2,q2,q3⟩:=Pl.skip hH.le;have hgl:=HG.out.1;have heb:=hH.eb;have hsl:=HG.out.2
   by_cases hstop:left s (skip s j)=[]\/∃c q,left s (skip s j)=c::q/\jL c=0
   ·have hst:=gFk hH.le t hstop
    have hT:=hH.signs;rw[hst] at hT;have HD:Hid (iB (gZ n) (left s i)=(some t,left s (skip s j))/\Pl s (skip s j)/\i<skip s j/\(subs t).length+i<=skip s j):=⟨by rw[HT.out,<-hT],P2,by have:=hH.lt;omega,by have:=hH.wid;omega⟩
    have hpk:jD s (skip s j) false≠42/\jD s (skip s j) false≠43/\jD s (skip s j) false≠63:=by
     rcases tX hH.le with ⟨e,hk⟩ | ⟨c,q,e,hk,_,_⟩
     ·rw[hk];exact⟨by decide,by decide,by decide⟩
     ·rw[hk]
      rcases hstop with h | ⟨c', q', h,h0⟩
      ·rw[h] at e;cases e
      ·rw[h] at e
       cases e;refine⟨fun e=>?_,fun e=>?_,fun e=>?_⟩
       ·rw[(qJ (n:=42) (by decide) (by decide)).1 e] at h0;cases h0
       ·rw[(qJ (n:=43) (by decide) (by decide)).1 e] at h0;cases h0
       ·rw[(qJ (n:=63) (by decide) (by decide)).1 e] at h0;cases h0
    have HH:Hid (tP g s w wr Eb i j T t m k nm a ln cp):=hH;generalize jD s (skip s j) false=C at *;obtain⟨p42,p43,p63⟩:=hpk;(have b42:(C==42)=false:=by rw[beq_eq_false_iff_ne];exact p42);(have b43:(C==43)=false:=by rw[beq_eq_false_iff_ne];exact p43);(have b63:(C==63)=false:=by rw[beq_eq_false_iff_ne];exact p63);clear hst hT hH HT hstop p42 p43 p63 P2 q2 q3;(go_wp2_with fail);refine HPK.out.mono ?_;rintro e3 W3 ⟨rfl,hR3,hO3⟩;have hv:=HH.out.var;have he3:W3.heap[Eb]? = some (.cells #[.int .i64 k,.string nm,.slice a ln cp] 69 (0,0)):=(hO3.block _ oo).trans hv;have c0:W3.cell? ⟨Eb,0,none⟩=some (.int .i64 k):=cell_of_row W3 Eb 0 _ _ _ he3;have c1:W3.cell? ⟨Eb,1,none⟩=some (.string nm):=cell_of_row W3 Eb 1 _ _ _ he3;have c2:W3.cell? ⟨Eb,2,none⟩=some (.slice a ln cp):=cell_of_row W3 Eb 2 _ _ _ he3;have HZ:Hid (W3.heap[w.heap.size]? = some (.cells #[.int .i64 0,.string ⟨#[]⟩,.slice none 0 0] 69 (0,0))):=(hO3.block _ oo).trans HH.out.zero;(have HF:Hid (∀cs,gX g w (W3.setRow w.heap.size cs)/\PAt (W3.setRow w.heap.size cs) g s (skip s j) false/\ExA (fun b=>w.heap.size<=b) (W3.setRow w.heap.size cs) m t (.agg #[.int .i64 k,.string nm,.slice a ln cp])):=fun cs=>⟨(HH.out.kept.trans hO3.kept).setRow _ _ (zzb _),hR3.setRow _ _ oo,ExA.kept (by rw[size_setRow,hO3.size];omega) (fun b hb hA=>⟨oo,(setRow_other _ _ _ _ oo).trans (hO3.block b oo)⟩) _ _ _ HH.out.ex⟩);clear hv he3 hR3 hO3 HPK hgl heb hsl;(go_wp2_with (refine wpList_store_row rfl 69 _ _ rfl w.heap.size #[.int .i64 k,.string nm,.slice a ln cp] rfl rfl 69 _ HZ.out gE rfl (jF _ _ _ _ _) ?_));refine bodyPost_ret (results_cell_row rfl _ _ w.heap.size 69 #[.int .i64 k,.string nm,.slice a ln cp] (0,0) _ rfl (setRow_heap _ _ _ _ _ _ HZ.out) Tryz.underlying69 rfl gE) rfl ?_;exact⟨(HF.out _).1,skip s j,t,m,(k,nm,a,ln,cp),false,(HF.out _).2.1,HD.out.2.1,by have:=HD.out.2.2.1;omega,HH.out.good,HH.out.kind,(HF.out _).2.2,rfl,.inl ⟨rfl,HD.out.1,HD.out.2.2.1,HD.out.2.2.2⟩⟩
   ·rcases tX hH.le with ⟨e,hk⟩ | ⟨c,q,e,hk,hq,hlt⟩
    ·exact absurd (.inl e) hstop
    ·have hkc:jL c≠0:=fun h0=>hstop (.inr ⟨c,q,e,h0⟩)
     have hc3:(c=42/\jL c=4)\/(c=43/\jL c=5)\/(c=63/\jL c=6):=by
      unfold jL at hkc ⊢
      by_cases h1:c=42
      ·subst h1;exact .inl ⟨rfl,rfl⟩
      ·by_cases h2:c=43
       ·subst h2;exact .inr (.inl ⟨rfl,rfl⟩)
       ·by_cases h3:c=63
        ·subst h3;exact .inr (.inr ⟨rfl,rfl⟩)
        ·rw[if_neg h1,if_neg h2,if_neg h3] at hkc
         exact absurd rfl hkc
     have HN:Hid (s.size - (skip s j+1)<gk - 1/\gk - 1<gk):=⟨oo,oo⟩;have hbe:Eb<wr.heap.size:=(zza.1 hH.var).1;rcases hc3 with ⟨rfl,hK⟩ | ⟨rfl,hK⟩ | ⟨rfl,hK⟩
     ·have hpv:jD s (skip s j) false=42:=by rw[hk];rfl
      rw[hpv] at HPK;(have HST:Hid (∀W1,jW g wr W1->PAt W1 g s (skip s j) false->tP g s w (((W1.setCell ⟨g,1,none⟩ (.int .i64 ((skip s j:Nat)+1))).alloc (.cells #[.int .i64 k,.string nm,.slice a ln cp] 69)).setRow Eb #[.int .i64 4,.string ⟨#[]⟩,.slice (some ⟨W1.heap.size,0,none⟩) 1 1]) Eb i (skip s j+1) T (node 4 ⟨#[]⟩ [t]) (m+1) 4 ⟨#[]⟩ (some ⟨W1.heap.size,0,none⟩) 1 1):=fun W1 h1 h2=>hH.step hgl e hq hlt hkc 4 hK oo h1 h2);have hvar:=hH.var;(have hsj:skip s j<=200:=by omega);clear hH hk hq hkc hK hpv e hstop P2 q2 q3 hf;(go_wp2_with fail);refine HPK.out.mono ?_;rintro e3 W3 ⟨rfl,hR3,hO3⟩;obtain⟨g0,g1,g2,g3,-⟩:=hR3.cells;have HS5:=HST.out W3 hO3 hR3;have HS6:Hid (tP g s w (((W3.setCell ⟨g,1,none⟩ (.int .i64 ((skip s j:Nat)+1))).alloc (.cells #[.int .i64 k,.string nm,.slice a ln cp] 69)).setRow Eb #[.int .i64 4,.string ⟨#[]⟩,.slice (some ⟨W3.heap.size,0,none⟩) 1 1]) Eb i (skip s j+1) T (node 4 ⟨#[]⟩ [t]) (m+1) 4 ⟨#[]⟩ (some ⟨W3.heap.size,0,none⟩) 1 1):=HS5;have he3:(W3.setCell ⟨g,1,none⟩ (.int .i64 ((skip s j:Nat)+1))).heap[Eb]? = some (.cells #[.int .i64 k,.string nm,.slice a ln cp] 69 (0,0)):=(zzh _ _ _ _ (by show Eb≠g;omega)).trans ((hO3.block _ oo).trans hvar);have c0:(W3.setCell ⟨g,1,none⟩ (.int .i64 ((skip s j:Nat)+1))).cell? ⟨Eb,0,none⟩=some (.int .i64 k):=cell_of_row _ Eb 0 _ _ _ he3;have c1:(W3.setCell ⟨g,1,none⟩ (.int .i64 ((skip s j:Nat)+1))).cell? ⟨Eb,1,none⟩=some (.string nm):=cell_of_row _ Eb 1 _ _ _ he3;have c2:(W3.setCell ⟨g,1,none⟩ (.int .i64 ((skip s j:Nat)+1))).cell? ⟨Eb,2,none⟩=some (.slice a ln cp):=cell_of_row _ Eb 2 _ _ _ he3;(have hE3:Eb<W3.heap.size:=by rw[hO3.size];exact hbe);have HE:Hid (((W3.setCell ⟨g,1,none⟩ (.int .i64 ((skip s j:Nat)+1))).alloc (.cells #[.int .i64 k,.string nm,.slice a ln cp] 69)).heap[Eb]? = some (.cells #[.int .i64 k,.string nm,.slice a ln cp] 69 (0,0))):=(zzf _ _ Eb (by simp;exact hE3)).trans he3;clear HS5 HST HPK hO3 hR3 he3 hvar;go_wp2_with (refine wpList_store_row rfl 69 _ _ rfl Eb #[.int .i64 4,.string ⟨#[]⟩,.slice (some ⟨W3.heap.size,0,none⟩) 1 1] rfl rfl 69 _ HE.out gE rfl (jF _ _ _ _ _) ?_)
      go_roundg (gk - 1)
      case measure=>exact HN.out.2
      case rel=>exact⟨_,_,_,_,_,_,_,_,HN.out.1,HS6.out⟩
     ·have hpv:jD s (skip s j) false=43:=by rw[hk];rfl
      rw[hpv] at HPK;(have HST:Hid (∀W1,jW g wr W1->PAt W1 g s (skip s j) false->tP g s w (((W1.setCell ⟨g,1,none⟩ (.int .i64 ((skip s j:Nat)+1))).alloc (.cells #[.int .i64 k,.string nm,.slice a ln cp] 69)).setRow Eb #[.int .i64 5,.string ⟨#[]⟩,.slice (some ⟨W1.heap.size,0,none⟩) 1 1]) Eb i (skip s j+1) T (node 5 ⟨#[]⟩ [t]) (m+1) 5 ⟨#[]⟩ (some ⟨W1.heap.size,0,none⟩) 1 1):=fun W1 h1 h2=>hH.step hgl e hq hlt hkc 5 hK oo h1 h2);have hvar:=hH.var;(have hsj:skip s j<=200:=by omega);clear hH hk hq hkc hK hpv e hstop P2 q2 q3 hf;(go_wp2_with fail);refine HPK.out.mono ?_;rintro e3 W3 ⟨rfl,hR3,hO3⟩;obtain⟨g0,g1,g2,g3,-⟩:=hR3.cells;have HS5:=HST.out W3 hO3 hR3;have HS6:Hid (tP g s w (((W3.setCell ⟨g,1,none⟩ (.int .i64 ((skip s j:Nat)+1))).alloc (.cells #[.int .i64 k,.string nm,.slice a ln cp] 69)).setRow Eb #[.int .i64 5,.string ⟨#[]⟩,.slice (some ⟨W3.heap.size,0,none⟩) 1 1]) Eb i (skip s j+1) T (node 5 ⟨#[]⟩ [t]) (m+1) 5 ⟨#[]⟩ (some ⟨W3.heap.size,0,none⟩) 1 1):=HS5;have he3:(W3.setCell ⟨g,1,none⟩ (.int .i64 ((skip s j:Nat)+1))).heap[Eb]? = some (.cells #[.int .i64 k,.string nm,.slice a ln cp] 69 (0,0)):=(zzh _ _ _ _ (by show Eb≠g;omega)).trans ((hO3.block _ oo).trans hvar);have c0:(W3.setCell ⟨g,1,none⟩ (.int .i64 ((skip s j:Nat)+1))).cell? ⟨Eb,0,none⟩=some (.int .i64 k):=cell_of_row _ Eb 0 _ _ _ he3;have c1:(W3.setCell ⟨g,1,none⟩ (.int .i64 ((skip s j:Nat)+1))).cell? ⟨Eb,1,none⟩=some (.string nm):=cell_of_row _ Eb 1 _ _ _ he3;have c2:(W3.setCell ⟨g,1,none⟩ (.int .i64 ((skip s j:Nat)+1))).cell? ⟨Eb,2,none⟩=some (.slice a ln cp):=cell_of_row _ Eb 2 _ _ _ he3;(have hE3:Eb<W3.heap.size:=by rw[hO3.size];exact hbe);have HE:Hid (((W3.setCell ⟨g,1,none⟩ (.int .i64 ((skip s j:Nat)+1))).alloc (.cells #[.int .i64 k,.string nm,.slice a ln cp] 69)).heap[Eb]? = some (.cells #[.int .i64 k,.string nm,.slice a ln cp] 69 (0,0))):=(zzf _ _ Eb (by simp;exact hE3)).trans he3;clear HS5 HST HPK hO3 hR3 he3 hvar;go_wp2_with (refine wpList_store_row rfl 69 _ _ rfl Eb #[.int .i64 5,.string ⟨#[]⟩,.slice (some ⟨W3.heap.size,0,none⟩) 1 1] rfl rfl 69 _ HE.out gE rfl (jF _ _ _ _ _) ?_)
      go_roundg (gk - 1)
      case measure=>exact HN.out.2
      case rel=>exact⟨_,_,_,_,_,_,_,_,HN.out.1,HS6.out⟩
     ·have hpv:jD s (skip s j) false=63:=by rw[hk];rfl
      rw[hpv] at HPK;(have HST:Hid (∀W1,jW g wr W1->PAt W1 g s (skip s j) false->tP g s w (((W1.setCell ⟨g,1,none⟩ (.int .i64 ((skip s j:Nat)+1))).alloc (.cells #[.int .i64 k,.string nm,.slice a ln cp] 69)).setRow Eb #[.int .i64 6,.string ⟨#[]⟩,.slice (some ⟨W1.heap.size,0,none⟩) 1 1]) Eb i (skip s j+1) T (node 6 ⟨#[]⟩ [t]) (m+1) 6 ⟨#[]⟩ (some ⟨W1.heap.size,0,none⟩) 1 1):=fun W1 h1 h2=>hH.step hgl e hq hlt hkc 6 hK oo h1 h2);have hvar:=hH.var;(have hsj:skip s j<=200:=by omega);clear hH hk hq hkc hK hpv e hstop P2 q2 q3 hf;(go_wp2_with fail);refine HPK.out.mono ?_;rintro e3 W3 ⟨rfl,hR3,hO3⟩;obtain⟨g0,g1,g2,g3,-⟩:=hR3.cells;have HS5:=HST.out W3 hO3 hR3;have HS6:Hid (tP g s w (((W3.setCell ⟨g,1,none⟩ (.int .i64 ((skip s j:Nat)+1))).alloc (.cells #[.int .i64 k,.string nm,.slice a ln cp] 69)).setRow Eb #[.int .i64 6,.string ⟨#[]⟩,.slice (some ⟨W3.heap.size,0,none⟩) 1 1]) Eb i (skip s j+1) T (node 6 ⟨#[]⟩ [t]) (m+1) 6 ⟨#[]⟩ (some ⟨W3.heap.size,0,none⟩) 1 1):=HS5;have he3:(W3.setCell ⟨g,1,none⟩ (.int .i64 ((skip s j:Nat)+1))).heap[Eb]? = some (.cells #[.int .i64 k,.string nm,.slice a ln cp] 69 (0,0)):=(zzh _ _ _ _ (by show Eb≠g;omega)).trans ((hO3.block _ oo).trans hvar);have c0:(W3.setCell ⟨g,1,none⟩ (.int .i64 ((skip s j:Nat)+1))).cell? ⟨Eb,0,none⟩=some (.int .i64 k):=cell_of_row _ Eb 0 _ _ _ he3;have c1:(W3.setCell ⟨g,1,none⟩ (.int .i64 ((skip s j:Nat)+1))).cell? ⟨Eb,1,none⟩=some (.string nm):=cell_of_row _ Eb 1 _ _ _ he3;have c2:(W3.setCell ⟨g,1,none⟩ (.int .i64 ((skip s j:Nat)+1))).cell? ⟨Eb,2,none⟩=some (.slice a ln cp):=cell_of_row _ Eb 2 _ _ _ he3;(have hE3:Eb<W3.heap.size:=by rw[hO3.size];exact hbe);have HE:Hid (((W3.setCell ⟨g,1,none⟩ (.int .i64 ((skip s j:Nat)+1))).alloc (.cells #[.int .i64 k,.string nm,.slice a ln cp] 69)).heap[Eb]? = some (.cells #[.int .i64 k,.string nm,.slice a ln cp] 69 (0,0))):=(zzf _ _ Eb (by simp;exact hE3)).trans he3;clear HS5 HST HPK hO3 hR3 he3 hvar;go_wp2_with (refine wpList_store_row rfl 69 _ _ rfl Eb #[.int .i64 6,.string ⟨#[]⟩,.slice (some ⟨W3.heap.size,0,none⟩) 1 1] rfl rfl 69 _ HE.out gE rfl (jF _ _ _ _ _) ?_)
      go_roundg (gk - 1)
      case measure=>exact HN.out.2
      case rel=>exact⟨_,_,_,_,_,_,_,_,HN.out.1,HS6.out⟩
  ):p:=h
theorem gNi (g:Nat)(s:ByteArray)(n:Nat)(hs:s.size<=200)(hCH:RCH g s n)(i:Nat)(w:World)(hR:PAt w g s i false)(hi:i<=s.size)(hn:s.size - i<n+1)(q:List UInt8)(hl:left s (skip s i)=40::q)(hk:jD s (skip s i) false=max ((40:UInt8).toNat:Int) 1)(hq:left s (skip s i+1)=q)(hlt:skip s i<s.size) :
  Calls Tryz.prog 168 #[.pointer (some ⟨g,0,none⟩)] w fun e w' => gX g w w' /\ rO g s w.heap.size i (iB (gZ n) (left s i)) e w' := by
 have hgl:=hR.lt
 obtain⟨P2,q2,q3⟩:=Pl.skip hi
 have HG:Hid (g<w.heap.size/\s.size<=200):=⟨hgl,hs⟩
 have hpv:jD s (skip s i) false=40:=by rw[hk];rfl
 have HPK0:Hid (∀o,Calls Tryz.prog 125 #[.pointer (some ⟨g,0,none⟩)] (w.alloc o) fun r w' => r=.returned (.int .u8 40)/\PAt w' g s (skip s i) false/\jW g (w.alloc o) w'):=fun o=>by
  have:=mF g s i false _ (hR.alloc o) hi oo
  rwa [hpv] at this
 have HPK:Hid (∀W j f,PAt W g s j f->j<=s.size->Calls Tryz.prog 125 #[.pointer (some ⟨g,0,none⟩)] W fun r w' => r=.returned (.int .u8 (jD s (skip s j) f))/\PAt w' g s (skip s j) f/\jW g W w'):=fun W j f h hj=>mF g s j f W h hj oo
 have HAL:Hid (∀W,PAt W g s (skip s i+1) false->Calls Tryz.prog 126 #[.pointer (some ⟨g,0,none⟩)] W fun e W' => gX g W W' /\ rO g s W.heap.size (skip s i+1) (gZ n q) e W'):=fun W h=>by
  have:=hCH W (skip s i+1) h oo oo
  rwa [hq] at this
 have HI:Hid (i<=s.size/\left s (skip s i)=40::q/\i<=skip s i):=⟨hi,hl,q2⟩
 have hsk:skip s i<=200:=by omega
 clear hR hCH hn q3 P2 q2 hk hq hpv hl hi hgl hs hlt
 go_enter Tryz.func168,Tryz.ntmps168
 go_wp2_with fail
 refine(HPK0.out _).mono ?_
 rintro e1 W1 ⟨rfl,hR1,hO1⟩
 have hgl:=HG.out.1
 have hs1:W1.heap.size=w.heap.size+1:=by rw[hO1.size];simp
 have hz1:W1.heap[w.heap.size]? = some (.cells #[.int .i64 0,.string ⟨#[]⟩,.slice none 0 0] 69 (0,0)):=(hO1.block _ oo).trans (heap_alloc_new w _)
 have hK1:gX g w W1:=((gX.refl g w).alloc _).trans hO1.kept
 have hRa:PAt (W1.alloc (.cells #[.int .i64 0,.string ⟨#[]⟩,.slice none 0 0] 69)) g s (skip s i) false:=hR1.alloc _
 obtain⟨g0,g1,g2,g3,g4⟩:=hRa.cells
 obtain⟨W2,hW2⟩:∃W2,W2=(W1.alloc (.cells #[.int .i64 0,.string ⟨#[]⟩,.slice none 0 0] 69)).setCell ⟨g,1,none⟩ (.int .i64 ((skip s i:Nat)+1)):=⟨_,rfl⟩
 have hP2:PAt W2 g s (skip s i+1) false:=by rw[hW2];exact hRa.next (skip s i+1)
 have hblk:∀b,b≠g->W2.heap[b]? = (W1.alloc (.cells #[.int .i64 0,.string ⟨#[]⟩,.slice none 0 0] 69)).heap[b]? := fun b hb=>by rw[hW2];exact zzh _ _ _ _ hb
 have hs2:W2.heap.size=W1.heap.size+1:=by rw[hW2];simp
 have hK2:gX g w W2:=(hK1.alloc _).trans ⟨by rw[hW2];rfl,by rw[hW2];rfl,by rw[hW2];rfl,by rw[hW2];simp,fun b _ hb=>hblk b hb⟩
 obtain⟨Eb,hEb⟩:∃Eb,Eb=W1.heap.size:=⟨_,rfl⟩
 have hev:W2.heap[Eb]? = some (.cells #[.int .i64 0,.string ⟨#[]⟩,.slice none 0 0] 69 (0,0)):=by rw[hEb];exact(hblk _ oo).trans (heap_alloc_new W1 _)
 have hz2:W2.heap[w.heap.size]? = some (.cells #[.int .i64 0,.string ⟨#[]⟩,.slice none 0 0] 69 (0,0)):=(hblk _ oo).trans ((zzf W1 _ _ oo).trans hz1)
 have HW:Hid (gX g w W2/\W2.heap[w.heap.size]? = some (.cells #[.int .i64 0,.string ⟨#[]⟩,.slice none 0 0] 69 (0,0))/\W2.heap[Eb]? = some (.cells #[.int .i64 0,.string ⟨#[]⟩,.slice none 0 0] 69 (0,0))/\Eb=w.heap.size+1/\W2.heap.size=Eb+1):=⟨hK2,hz2,hev,oo,oo⟩
 have HP2:Hid (PAt W2 g s (skip s i+1) false):=hP2
 have HW2:Hid (W2=(W1.alloc (.cells #[.int .i64 0,.string ⟨#[]⟩,.slice none 0 0] 69)).setCell ⟨g,1,none⟩ (.int .i64 ((skip s i:Nat)+1))):=hW2
 clear hs1 hz1 hK1 hRa hP2 hblk hK2 hev hR1 hO1 HPK0 hW2 hs2 hz2
 go_wp2_with fail
 rw[<-HW2.out,<-hEb]
 clear g0 g1 g2 g3 g4 hEb HW2
 refine(HAL.out _ HP2.out).mono ?_
 rintro e2 W3 ⟨hK3,j,t,m,r,f,hP3,hPl,hij,hG,h99,hX,rfl,hcase⟩
 obtain⟨k,nm,a,ln,cp⟩:=r
 unfold jI at hX ⊢
 simp only at hX ⊢
 obtain⟨hK2,hz2,hev,hEb,hs2⟩:=HW.out
 have hs3:=hK3.size
 have hev3:W3.heap[Eb]? = some (.cells #[.int .i64 0,.string ⟨#[]⟩,.slice none 0 0] 69 (0,0)):=(hK3.block _ oo oo).trans hev
 have hz3:W3.heap[w.heap.size]? = some (.cells #[.int .i64 0,.string ⟨#[]⟩,.slice none 0 0] 69 (0,0)):=(hK3.block _ oo oo).trans hz2
 have hstay:=hPl.stay
 have HEV:Hid (W3.heap[Eb]? = some (.cells #[.int .i64 0,.string ⟨#[]⟩,.slice none 0 0] 69 (0,0))):=hev3
 have hP4:PAt (W3.setRow Eb #[.int .i64 k,.string nm,.slice a ln cp]) g s j f:=hP3.setRow _ _ oo
 have HPK2:Hid (Calls Tryz.prog 125 #[.pointer (some ⟨g,0,none⟩)] (W3.setRow Eb #[.int .i64 k,.string nm,.slice a ln cp]) fun r w' => r=.returned (.int .u8 (jD s j f))/\PAt w' g s j f/\jW g (W3.setRow Eb #[.int .i64 k,.string nm,.slice a ln cp]) w'):=by
  have:=HPK.out _ j f hP4 hPl.1
  rwa [hstay] at this
 have hXs:∀(W' : World),W3.heap.size<=W'.heap.size->(∀b,b<W3.heap.size->b≠Eb->b≠g->b≠w.heap.size->W'.heap[b]? = W3.heap[b]?)->ExA (fun b=>w.heap.size<b/\b≠Eb) W' m t (.agg #[.int .i64 k,.string nm,.slice a ln cp]):=fun W' h1 h2=>ExA.kept h1 (fun b hb hA=>⟨⟨oo,oo⟩,h2 b hb oo oo oo⟩) _ _ _ hX
 have HX:Hid (∀(W' : World),W3.heap.size<=W'.heap.size->(∀b,b<W3.heap.size->b≠Eb->b≠g->b≠w.heap.size->W'.heap[b]? = W3.heap[b]?)->ExA (fun b=>w.heap.size<b/\b≠Eb) W' m t (.agg #[.int .i64 k,.string nm,.slice a ln cp])):=hXs
 have HB:Hid (gX g w W3/\W3.heap[w.heap.size]? = some (.cells #[.int .i64 0,.string ⟨#[]⟩,.slice none 0 0] 69 (0,0))/\w.heap.size<Eb/\Eb<W3.heap.size/\Eb≠g/\w.heap.size≠g):=⟨hK2.trans hK3,hz3,oo,oo,oo,oo⟩
 have HJ:Hid (Pl s j/\skip s i+1<=j/\lC t/\iE t≠99/\(subs t).length+(skip s i+1)<=j+1):=⟨hPl,hij,hG,h99,by rcases hcase with ⟨_,_,_,h⟩ | ⟨_,_,h⟩<;>omega⟩
 have HC:Hid ((f=false/\gZ n q=(some t,left s j))\/(f=true/\gZ n q=(none,left s j))):=by
  rcases hcase with ⟨h1,h2,_⟩ | ⟨h1,h2,_⟩
  ·exact .inl ⟨h1,h2⟩
  ·exact .inr ⟨h1,h2⟩
 clear hXs hX hev3 hz3 hstay hP4 hP3 hK2 hz2 hev hEb hs2 hs3 hcase hG h99 HW HP2 HAL HPK hK3
 by_cases h41:f=false/\∃q', left s j=41::q'
 ·obtain⟨rfl,q', hq'⟩:=h41
  have hjs:j<s.size:=by
   have:=iL s j
   rw[hq', List.length_cons] at this;omega
  have hpv:jD s j false=41:=by
   have h5:=gCj hjs;have h6:=rA hjs;rw[hq'] at h6;rw[h5,<-(List.cons.inj h6).1]
   rfl
  have hq2:left s (j+1)=q' := by
   have h6:=rA hjs;rw[hq'] at h6;exact(List.cons.inj h6).2.symm
  rw[hpv] at HPK2
  have hal:gZ n q=(some t,left s j):=by
   rcases HC.out with ⟨_,h⟩ | ⟨h,_⟩
   ·exact h
   ·cases h
  obtain⟨T,hTT⟩:∃T,iY t (left s (j+1))=T:=⟨_,rfl⟩
  have HT:Hid (iB (gZ n) (left s i)=(some T.1,T.2)):=by
   show _=_
   rw[gRi HI.out.1 HI.out.2.1 hal hq', <- hTT,hq2]
  have HTT:Hid (iY t (left s (j+1))=T/\j<s.size):=⟨hTT,hjs⟩;(have hj200:j<=200:=by have:=HG.out.2;omega);clear hTT hal hpv hq2 hq' hPl hij HC hjs;(go_wp2_with (refine wpList_store_row rfl 69 _ _ rfl Eb #[.int .i64 k,.string nm,.slice a ln cp] rfl rfl 69 _ HEV.out gE rfl (jF _ _ _ _ _) ?_));refine HPK2.out.mono ?_;rintro e5 W5 ⟨rfl,hP5,hO5⟩;obtain⟨g0,g1,g2,g3,g4⟩:=hP5.cells;obtain⟨hKw,hz3,hEb0,hEb1,hEg,hwg⟩:=HB.out;obtain⟨W6,hW6⟩:∃W6,W6=W5.setCell ⟨g,1,none⟩ (.int .i64 ((j:Nat)+1)):=⟨_,rfl⟩;(have hP6:PAt W6 g s (j+1) false:=by rw[hW6];exact hP5.next (j+1));(have hblk:∀b,b≠g->b≠Eb->W6.heap[b]? = W3.heap[b]? := fun b h1 h2=>by rw[hW6,zzh _ _ _ _ h1,hO5.block b h1,setRow_other _ _ _ _ h2]);have hs6:W6.heap.size=W3.heap.size:=by rw[hW6];simp[hO5.size]
  have he6:W6.heap[Eb]? = some (.cells #[.int .i64 k,.string nm,.slice a ln cp] 69 (0,0)):=by
   rw[hW6,zzh _ _ _ _ hEg,hO5.block Eb hEg];exact setRow_heap _ _ _ _ _ _ HEV.out
  have hK6:gX g w W6:=⟨by rw[hW6];exact hO5.os.trans hKw.os,by rw[hW6];exact hO5.tape.trans hKw.tape,by rw[hW6];exact hO5.output.trans hKw.output,by have:=hKw.size;omega,fun b hb hg=>(hblk b hg oo).trans (hKw.block b hb hg)⟩;have hJ:=HJ.out;have hII:=HI.out.2.2;have HS:Hid (tP g s w W6 Eb i (j+1) T t m k nm a ln cp):=⟨hP6,by have:=HTT.out.2;omega,HTT.out.1,hJ.2.2.1,hJ.2.2.2.1,oo,oo,hK6,(hblk _ hwg oo).trans hz3,he6,hEb0,HX.out W6 oo (fun b _ h1 h2 _=>hblk b h2 h1)⟩;rw[hW6] at HS;clear hP6 hblk hs6 he6 hK6 hJ hII hKw hz3 hEb0 hEb1 hEg hwg HB HJ HX HEV HPK2 hP5 hO5 HTT hW6;exact k01
 ·have HNO:Hid (iB (gZ n) (left s i)=(none,left s j)):=by
   show _=_
   refine gRj HI.out.1 HI.out.2.1 ?_;rcases HC.out with ⟨hf,h⟩ | ⟨_,h⟩
   ·exact .inr ⟨t,h,fun q' e=>h41 ⟨hf,q', e⟩⟩
   ·exact .inl h
  have hpv:jD s j f≠41:=by
   intro e;cases f with
   | true=>
    unfold jD at e;rw[if_pos (.inl rfl)] at e;cases e
   | false=>
    rcases Nat.lt_or_ge j s.size with hjs | hjs
    ·rw[gCj hjs] at e
     refine h41 ⟨rfl,left s (j+1),?_⟩;rw[rA hjs,(qJ (n:=41) (by decide) (by decide)).1 e]
     rfl
    ·have:j=s.size:=by have:=hPl.1;omega
     rw[this] at e;rw[(wM (zzb _)).2 (oI s)] at e;cases e
  generalize jD s j f=C at *;(have e1:(C==41)=false:=by rw[beq_eq_false_iff_ne];exact hpv);(have e2:(C != 41)=true:=by rw[bne_iff_ne];exact hpv);clear hpv h41 HC hPl hij;(go_wp2_with (refine wpList_store_row rfl 69 _ _ rfl Eb #[.int .i64 k,.string nm,.slice a ln cp] rfl rfl 69 _ HEV.out gE rfl (jF _ _ _ _ _) ?_));refine HPK2.out.mono ?_;rintro e5 W5 ⟨rfl,hP5,hO5⟩;obtain⟨g0,g1,g2,g3,g4⟩:=hP5.cells;obtain⟨hKw,hz3,hEb0,hEb1,hEg,hwg⟩:=HB.out;obtain⟨W6,hW6⟩:∃W6,W6=W5.setCell ⟨g,2,none⟩ (.bool true):=⟨_,rfl⟩;(have hP6:PAt W6 g s j true:=by rw[hW6];exact hP5.err);(have hblk:∀b,b≠g->b≠Eb->W6.heap[b]? = W3.heap[b]? := fun b h1 h2=>by rw[hW6,zzh _ _ _ _ h1,hO5.block b h1,setRow_other _ _ _ _ h2]);have hs6:W6.heap.size=W3.heap.size:=by rw[hW6];simp[hO5.size]
  have he6:W6.heap[Eb]? = some (.cells #[.int .i64 k,.string nm,.slice a ln cp] 69 (0,0)):=by
   rw[hW6,zzh _ _ _ _ hEg,hO5.block Eb hEg];exact setRow_heap _ _ _ _ _ _ HEV.out
  have hK6:gX g w W6:=⟨by rw[hW6];exact hO5.os.trans hKw.os,by rw[hW6];exact hO5.tape.trans hKw.tape,by rw[hW6];exact hO5.output.trans hKw.output,by have:=hKw.size;omega,fun b hb hg=>(hblk b hg oo).trans (hKw.block b hb hg)⟩;have HZ:Hid (W6.heap[w.heap.size]? = some (.cells #[.int .i64 0,.string ⟨#[]⟩,.slice none 0 0] 69 (0,0))):=(hblk _ hwg oo).trans hz3;have c0:W6.cell? ⟨Eb,0,none⟩=some (.int .i64 k):=cell_of_row _ Eb 0 _ _ _ he6;have c1:W6.cell? ⟨Eb,1,none⟩=some (.string nm):=cell_of_row _ Eb 1 _ _ _ he6;have c2:W6.cell? ⟨Eb,2,none⟩=some (.slice a ln cp):=cell_of_row _ Eb 2 _ _ _ he6;(have HF:Hid (∀cs,gX g w (W6.setRow w.heap.size cs)/\PAt (W6.setRow w.heap.size cs) g s j true/\ExA (fun b=>w.heap.size<=b) (W6.setRow w.heap.size cs) m t (.agg #[.int .i64 k,.string nm,.slice a ln cp])):=fun cs=>⟨hK6.setRow _ _ (zzb _),hP6.setRow _ _ hwg,(HX.out (W6.setRow w.heap.size cs) (by rw[size_setRow];omega) (fun b _ h1 h2 h3=>(setRow_other _ _ _ _ h3).trans (hblk b h2 h1))).mono fun b _ hA=>by omega⟩);rw[hW6] at c0 c1 c2;have HW6:Hid (W6=W5.setCell ⟨g,2,none⟩ (.bool true)):=hW6;clear hP6 hblk hs6 he6 hK6 hKw hz3 hEb0 hEb1 hEg hwg HB HX HEV HPK2 hP5 hO5 hW6;(go_wp2_with (rw[<-HW6.out];refine wpList_store_row rfl 69 _ _ rfl w.heap.size #[.int .i64 k,.string nm,.slice a ln cp] rfl rfl 69 _ HZ.out gE rfl (jF _ _ _ _ _) ?_));refine bodyPost_ret (results_cell_row rfl _ _ w.heap.size 69 #[.int .i64 k,.string nm,.slice a ln cp] (0,0) _ rfl (setRow_heap _ _ _ _ _ _ HZ.out) Tryz.underlying69 rfl gE) rfl ?_;obtain⟨j1,j2,j3,j4,j5⟩:=HJ.out;have hII:=HI.out.2.2;exact⟨(HF.out _).1,j,t,m,(k,nm,a,ln,cp),true,(HF.out _).2.1,j1,oo,j3,j4,(HF.out _).2.2,rfl,.inr ⟨rfl,HNO.out,oo⟩⟩
end Go.Proofs.YtjkebndkeamijaaGreatDoor
