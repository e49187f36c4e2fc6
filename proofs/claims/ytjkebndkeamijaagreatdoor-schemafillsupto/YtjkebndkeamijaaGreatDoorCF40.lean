/-
  PROVED HERE: what the texts DFFillR, DFFillW9, DFSpecC, DFRSpec, DFRKs say.
-/
import Derived.Test.YtjkebndkeamijaaGreatDoorCF39
import Derived.Test.YtjkebndkeamijaaGreatDoorCF29
set_option maxRecDepth 100000
set_option maxHeartbeats 1000000
namespace Go.Proofs.YtjkebndkeamijaaGreatDoor
open Go.RowKit
theorem seen_calls (w:World)(base N:Nat)(g cap:Nat)(es:List Wy)(h:Ways base w (.slice (some ⟨g,0,none⟩) es.length cap) N es)(a:Option Addr)(c:Nat)(bs:List Bool)(hb:Bools w a N bs)(hlen:es.length<=1000000000) :
  Calls Tryz.prog 131 #[.slice (some ⟨g,0,none⟩) es.length cap,.slice a N c] w fun e w' => ∃r:Bool,e=.returned (.bool r)/\(r=true↔∃x∈es,x.1.2.2=bs)/\Below w.heap.size w w' := by
 obtain⟨zl,hzl⟩:∃zl,es.length=zl:=⟨_,rfl⟩
 have HX:Hid (∀(X:World) (i:Nat),Below w.heap.size w X->i<zl->∃x:Wy,es[i]? = some x/\X.cell? ⟨g,i * 2,none⟩=some (.slice (some x.1.1) N x.1.2.1)/\Calls Tryz.prog 158 #[.slice (some x.1.1) N x.1.2.1,.slice a N c] X fun e w' => ∃r:Bool,e=.returned (.bool r)/\(r=true↔x.1.2.2=bs)/\Below X.heap.size X w'):=fun X i hX hi=>by
  obtain⟨g', cap', e,hc⟩:=h.cell oo;(injection e with e1);(injection e1 with e1);(injection e1 with e1);subst e1;have hx:es[i]? = some (es[i]'(by omega)):=zze oo;exact⟨_,hx,(hc X hX i _ hx).1,twin_calls X _ _ _ _ _ _ _ ((h.ok _ (zzj hx)).bools.below hX) (hb.below hX)⟩
 have hzi:(zl:Int)<=1000000000:=by omega
 have HL:Hid (es.length=zl):=hzl
 rw[hzl]
 clear h hb hlen hzl
 go_enter Tryz.func131,Tryz.ntmps131
 go_wp2
 go_loopg [5] (zl+1) (fun gk v wr=>∃i:Nat,i<=zl/\zl<i+gk/\v=.int .i64 (i:Int)/\(∀(j:Nat) (x:Wy),j<i->es[j]? = some x->x.1.2.2≠bs)/\Below w.heap.size w wr)
 case atStart=>exact⟨0,zzn _,oo,rfl,fun j x hj=>by omega,zzd _ _⟩
 case round=>
  obtain⟨i,hi,hgk,rfl,hT,hB⟩:=hrel
  by_cases hlt:i<zl
  ·obtain⟨x,hx,c1,HC⟩:=HX.out wr i hB hlt
   (have hii:(i:Int)<(zl:Int):=by omega);(have hi0:(0:Int)<=(i:Int):=by omega);have HB:Hid (es[i]? = some x/\(∀(j:Nat) (x:Wy),j<i->es[j]? = some x->x.1.2.2≠bs)/\Below w.heap.size w wr):=⟨hx,hT,hB⟩;clear hB HX hT hx;(go_wp2_with fail);refine HC.mono ?_;rintro e W2 ⟨r,rfl,hr,hB2⟩;have HB2:Hid (Below w.heap.size w W2):=HB.out.2.2.trans (hB2.mono HB.out.2.2.size);have HR:Hid (r=true↔x.1.2.2=bs):=hr;clear hr hB2 HC c1;cases r with
   | true=>
    go_wp2;go_ret;exact⟨true,rfl,⟨fun _=>⟨x,zzj HB.out.1,HR.out.1 (by first | rfl | trivial)⟩,fun _=>rfl⟩,HB2.out⟩
   | false=>
    go_wp2
    go_roundg (zl - i)
    case measure=>omega
    case rel=>exact⟨i+1,oo,oo,by first | rfl | go_num,fun j y hj hy=>by
     by_cases e:j=i
     ·subst e
      rw[HB.out.1] at hy;cases hy;exact fun e=>by cases HR.out.2 e
     ·exact HB.out.2.1 j y oo hy,HB2.out⟩
  ·obtain rfl:i=zl:=by omega
   have hd:decide ((i:Int)<(i:Int))=false:=by simp
   have HB:Hid ((∀x∈es,x.1.2.2≠bs)/\Below w.heap.size w wr):=⟨fun x hx=>by
    obtain⟨j,hj⟩:=List.getElem?_of_mem hx
    exact hT j x (by have:=(zzc.1 hj).1;have:=HL.out;omega) hj,hB⟩
   clear hB HX hT;go_wp2;go_ret;exact⟨false,rfl,⟨fun e=>(by cases e),fun ⟨x,hx,e⟩=>absurd e (HB.out.1 x hx)⟩,HB.out.2⟩
theorem owns_base {W:World}{b b' : Nat}{e:TypeId}{sz:Nat}{v:Value}{n:Nat}{xs:List Value}(h:W.ownsRow b e sz v n xs)(hb:b' <= b):W.ownsRow b' e sz v n xs:=by
 refine⟨h.1,?_⟩
 rcases h.2 with h2 | ⟨g,cap,cur,h1,h2,h3⟩
 ·exact .inl h2
 ·exact .inr ⟨g,cap,cur,h1,Nat.le_trans hb h2,h3⟩
def wordsW (es:List Wy):List (List Int):=es.map (fun e=>e.2.2.2)
theorem wordsW_at {es:List Wy}{i:Nat}{e:Wy}(h:es[i]? = some e):(wordsW es)[i]? = some e.2.2.2:=by unfold wordsW;rw[List.getElem?_map,h];rfl
structure FIn (F:List Node) (zs:List Int) (W2 wr:World) (v:Value) (es:List Wy) (i t:Nat):Prop where
 ways:Ways W2.heap.size wr v F.length es
 bfs:Bfs (behind F zs) (wordsW es) i t
 mean:∀e∈es,∀q:Nat,e.1.2.2[q]? = some true↔behind F zs e.2.2.2 q
 short:∀(k:Nat) (e:Wy),es[k]? = some e->e.2.2.2.length<=k
 bel:Below W2.heap.size W2 wr
theorem FIn.below {F:List Node}{zs:List Int}{W2 wr w' : World}{v:Value}{es:List Wy}{i t:Nat}(h:FIn F zs W2 wr v es i t)(hB:Below wr.heap.size wr w'):FIn F zs W2 w' v es i t :=
 ⟨h.ways.below hB,h.bfs,h.mean,h.short,h.bel.trans (hB.mono h.bel.size)⟩
theorem FIn.few {F:List Node}{zs:List Int}{W2 wr:World}{v:Value}{es:List Wy}{i t:Nat}(h:FIn F zs W2 wr v es i t):es.length<=2 ^ nm F+1:=by
 have:=few_behind h.bfs
 unfold wordsW at this
 rw[List.length_map] at this
 exact this
theorem behind_bools {F:List Node}{zs u v:List Int}{b1 b2:List Bool}(h1:∀q:Nat,b1[q]? = some true↔behind F zs u q)(h2:∀q:Nat,b2[q]? = some true↔behind F zs v q)(e:b1=b2):behind F zs u=behind F zs v:=by
 subst e
 funext q
 exact propext ((h1 q).symm.trans (h2 q))
theorem bools_behind {F:List Node}{zs u v:List Int}{b1 b2:List Bool}{N:Nat}(l1:b1.length=N)(l2:b2.length=N)(h1:∀q:Nat,b1[q]? = some true↔behind F zs u q)(h2:∀q:Nat,b2[q]? = some true↔behind F zs v q)(e:behind F zs u=behind F zs v):b1=b2:=by
 refine List.ext_getElem? fun q=>?_
 by_cases hq:q<N
 ·have e1:b1[q]? = some (b1[q]'(by omega)):=zze oo
  have e2:b2[q]? = some (b2[q]'(by omega)):=zze oo;have h1' := h1 q;have h2' := h2 q;rw[e,<-h2', e1,e2] at h1';rw[e1,e2];cases hx:b1[q]'(by omega)<;>cases hy:b2[q]'(by omega)<;>simp_all
 ·rw[List.getElem?_eq_none oo,List.getElem?_eq_none oo]
theorem FIn.skip {F:List Node}{zs:List Int}{W2 wr:World}{v:Value}{es:List Wy}{i t:Nat}(h:FIn F zs W2 wr v es i t){e:Wy}(he:es[i]? = some e)(hn:¬∃q,behind F zs (e.2.2.2++[(t:Int)]) q):FIn F zs W2 wr v es i (t+1) :=
 ⟨h.ways,h.bfs.skip (wordsW_at he) hn,h.mean,h.short,h.bel⟩
theorem FIn.seen {F:List Node}{zs:List Int}{W2 wr:World}{v:Value}{es:List Wy}{i t:Nat}(h:FIn F zs W2 wr v es i t){e x:Wy}(he:es[i]? = some e)(hx:x∈es){bs:List Bool}(hb:∀q:Nat,bs[q]? = some true↔behind F zs (e.2.2.2++[(t:Int)]) q)(hxb:x.1.2.2=bs):FIn F zs W2 wr v es i (t+1) :=
 ⟨h.ways,h.bfs.seen (wordsW_at he) (List.mem_map.2 ⟨x,hx,rfl⟩) (behind_bools (h.mean x hx) hb hxb),h.mean,h.short,h.bel⟩
theorem FIn.put {F:List Node}{zs:List Int}{W2 wr w' : World}{v v' : Value}{es:List Wy}{i t:Nat}(h:FIn F zs W2 wr v es i t){e n:Wy}(he:es[i]? = some e)(hn:n.2.2.2=e.2.2.2++[(t:Int)])(hb:∀q:Nat,n.1.2.2[q]? = some true↔behind F zs (e.2.2.2++[(t:Int)]) q)(hl:n.1.2.2.length=F.length)(hno:¬∃x∈es,x.1.2.2=n.1.2.2)
  (hw:Ways W2.heap.size w' v' F.length (es++[n])) (hB:Below W2.heap.size W2 w'):FIn F zs W2 w' v' (es++[n]) i (t+1):=by
 refine⟨hw,?_,?_,?_,hB⟩
 ·have:=h.bfs.put (wordsW_at he) (fun x hx e' => by
   obtain⟨y,hy,rfl⟩:=List.mem_map.1 hx
   exact hno ⟨y,hy,bools_behind (h.ways.ok y hy).bools.1 hl (h.mean y hy) hb e'⟩)
  unfold wordsW at this ⊢;rw[List.map_append,List.map_singleton,hn];exact this
 ·intro x hx
  rcases List.mem_append.1 hx with hx | hx
  ·exact h.mean x hx
  ·rw[List.mem_singleton] at hx
   subst hx;rw[hn];exact hb
 ·intro k x hx
  have hi:i<es.length:=(zzc.1 he).1
  by_cases hk:k<es.length
  ·rw[List.getElem?_append_left hk] at hx
   exact h.short k x hx
  ·have hk2:k=es.length:=by
    have:=(zzc.1 hx).1
    rw[List.length_append,List.length_singleton] at this;omega
   subst hk2;rw[List.getElem?_append_right (zzb _),Nat.sub_self] at hx;simp only[List.getElem?_cons_zero,Option.some.injEq] at hx;subst hx
   have:=h.short i e he
   rw[hn,List.length_append,List.length_singleton];omega
theorem FIn.next {F:List Node}{zs:List Int}{W2 wr:World}{v:Value}{es:List Wy}{i:Nat}(h:FIn F zs W2 wr v es i 16){e:Wy}(he:es[i]? = some e)(hn:¬behind F zs e.2.2.2 1):FIn F zs W2 wr v es (i+1) 0 :=
 ⟨h.ways,h.bfs.next (wordsW_at he) hn,h.mean,h.short,h.bel⟩
def FilledR (gs:List Grp)(n:Nat)(t:DataW Unit)(zs:List Int)(w w' : World)(e:Ending):Prop :=
 Below w.heap.size w w' /\ (((chk n t gs≠0\/¬PreD gs n t zs)/\e=.returned (.tuple #[.slice none 0 0,.bool false]))\/(chk n t gs=0/\PreD gs n t zs/\∃(a:Option Addr) (c:Nat) (xs:List Int),e=.returned (.tuple #[.slice a xs.length c,.bool true])/\Ints w' a xs.length xs/\BestD gs n t zs xs))
theorem behind_pre {n:Nat}{t:DataW Unit}{gs:List Grp}(hc:chk n t gs=0)(zs u:List Int):(∃q,behind (netF gs n t) zs u q)↔PreD gs n t (zs++u):=by
 unfold behind
 rw[(netF_nets hc).1.begins,<-pre_lang hc]
theorem behind_small {n:Nat}{t:DataW Unit}{gs:List Grp}(hc:chk n t gs=0)(zs:List Int):∀u x,(∃q,behind (netF gs n t) zs (u++[x]) q)->0<=x/\x<16:=fun u x h=>by
 have:=(behind_pre hc zs (u++[x])).1 h
 rw[<-List.append_assoc] at this
 exact pre_small hc this
theorem behind_less {n:Nat}{t:DataW Unit}{gs:List Grp}(hc:chk n t gs=0)(zs:List Int):∀u v,(∃q,behind (netF gs n t) zs (u++v) q)->∃q,behind (netF gs n t) zs u q:=fun u v h=>by
 have:=(behind_pre hc zs (u++v)).1 h
 rw[<-List.append_assoc] at this
 exact(behind_pre hc zs u).2 (pre_less this)
theorem FIn.best {n:Nat}{t:DataW Unit}{gs:List Grp}(hc:chk n t gs=0){zs:List Int}{W2 wr:World}{v:Value}{es:List Wy}{i:Nat}(h:FIn (netF gs n t) zs W2 wr v es i 0){e:Wy}(he:es[i]? = some e)(h1:behind (netF gs n t) zs e.2.2.2 1):BestD gs n t zs e.2.2.2:=by
 have hN:=(netF_nets hc).1
 refine⟨(hN.ends _).1 h1,fun ys hy=>?_⟩
 exact h.bfs.found (behind_same _ zs) (behind_small hc zs) (behind_less hc zs) (wordsW_at he) ((hN.ends _).2 hy)
theorem FIn.none {n:Nat}{t:DataW Unit}{gs:List Grp}(hc:chk n t gs=0){zs:List Int}{W2 wr:World}{v:Value}{es:List Wy}{i:Nat}(h:FIn (netF gs n t) zs W2 wr v es i 0)(hi:es.length<=i)(hp:PreD gs n t zs):False:=by
 have hN:=(netF_nets hc).1
 obtain⟨ys,hy⟩:=(pre_lang hc zs).1 hp
 exact h.bfs.none (behind_same _ zs) (behind_small hc zs) (behind_less hc zs) (by unfold wordsW;rw[List.length_map];exact hi) (ys:=ys) ((hN.ends _).2 hy)
theorem stepped_way {w0 W:World}{Bn n:Nat}{t:DataW Unit}{gs:List Grp}(hc:chk n t gs=0){zs:List Int}(hN:NetOk w0 W Bn (netF gs n t)){e:Wy}(hb:Bools W (some e.1.1) (netF gs n t).length e.1.2.2)(hm:∀q:Nat,e.1.2.2[q]? = some true↔behind (netF gs n t) zs e.2.2.2 q)(x:Int) :
  Calls Tryz.prog 114 #[.pointer (some ⟨Bn,0,none⟩),.slice (some e.1.1) (netF gs n t).length e.1.2.1,.int .i64 x] W fun e' w' => ∃(a' : Addr) (c' : Nat) (bs' : List Bool) (sm:Bool),e' = .returned (.tuple #[.slice (some a') (netF gs n t).length c', .bool sm])/\Bools w' (some a') (netF gs n t).length bs' /\ (∀q:Nat,bs'[q]? = some true↔behind (netF gs n t) zs (e.2.2.2++[x]) q)/\(sm=true↔∃q,behind (netF gs n t) zs (e.2.2.2++[x]) q)/\Below W.heap.size W w' := by
 refine(step_calls w0 W Bn _ hN (netF_nets hc).2.2.2 e.1.1 e.1.2.1 e.1.2.2 hb x).mono ?_
 rintro e' W3 ⟨a', c', bs', sm,rfl,h1,h2,h3,h4⟩
 refine⟨a', c', bs', sm,rfl,h1,fun q=>?_,?_,h4⟩
 ·rw[h2 q,behind_snoc]
  exact stepM_congr hm x q
 ·rw[h3,hop_some,behind_snoc]
  exact⟨fun ⟨q,h⟩=>⟨q,(stepM_congr hm x q).1 h⟩,fun ⟨q,h⟩=>⟨q,(stepM_congr hm x q).2 h⟩⟩
theorem two_new (w:World)(x0 x1:Value)(t:TypeId):∀j u,[x0,x1][j]? = some u->(w.alloc (.cells #[x0,x1] t)).cell? ((⟨w.heap.size,0,none⟩:Addr).add j)=some u:=by
 intro j u hj
 have hadd:(⟨w.heap.size,0,none⟩:Addr).add j=⟨w.heap.size,j,none⟩:=by unfold Addr.add;split<;>simp_all
 rw[hadd]
 match j,hj with
 | 0,hj=>simp at hj;subst hj;simp
 | 1,hj=>simp at hj;subst hj;simp
theorem first_way {F:List Node}{zs:List Int}{W2:World}{a:Addr}{c:Nat}{bs:List Bool}(hb:Bools W2 (some a) F.length bs)(hR:ReadM F zs bs zs.length):FIn F zs W2 (W2.alloc (.cells #[.slice (some a) F.length c,.slice none 0 0] 188)) (.slice (some ⟨W2.heap.size,0,none⟩) 1 1) [((a,c,bs),(none,0,[]))] 0 0:=by
 have hB:Below W2.heap.size W2 (W2.alloc (.cells #[.slice (some a) F.length c,.slice none 0 0] 188)):=(zzd _ W2).alloc (zzb _) _
 refine⟨⟨⟨rfl,.inr ⟨W2.heap.size,1,_,rfl,zzb _,World.alloc_heap_new W2 _,zzb _,by unfold maxLen;omega,rfl,rfl⟩⟩,?_⟩,Bfs.first _,?_,?_,hB⟩
 ·intro e he
  rw[List.mem_singleton] at he;subst he;exact⟨hb.below hB,World.ownsRow_nil ..⟩
 ·intro e he q
  rw[List.mem_singleton] at he;subst he
  have:=hR.2.1.2 q
  rw[List.take_length] at this;unfold behind;rw[List.append_nil];exact this
 ·intro k e he
  cases k with
  | zero=>
   simp only[List.getElem?_cons_zero,Option.some.injEq] at he;subst he;exact zzb _
  | succ k=>simp at he
theorem way_put {F:List Node}{zs:List Int}{W2 W4 W8:World}{v:Value}{es:List Wy}{i j N:Nat}(hI:FIn F zs W2 W4 v es i j){e:Wy}(he:es[i]? = some e)(hN:N=F.length)(hlen:es.length<=33554433){a' : Addr}{c' : Nat}{bs' : List Bool}(hb:Bools W4 (some a') N bs')(hm:∀q:Nat,bs'[q]? = some true↔behind F zs (e.2.2.2++[(j:Int)]) q)(hno:¬∃x∈es,x.1.2.2=bs')
  (hB48:Below W4.heap.size W4 W8){ra:Option Addr}{rc:Nat}(hown:W8.ownsRow W4.heap.size 3 1 (.slice ra (e.2.2.2.length+1) rc) (e.2.2.2.length+1) (intsV (e.2.2.2++[(j:Int)]))) :
  ∃g' cap' W10,(Builtin.append_ #[189,189] 189 #[v,.slice (some ⟨W8.heap.size,0,none⟩) 1 1]).run Tryz.prog (W8.alloc (.cells #[.slice (some a') N c', .slice ra (e.2.2.2.length+1) rc] 188))=.ok (.slice (some ⟨g', 0,none⟩) (es.length+1) cap') W10/\FIn F zs W2 W10 (.slice (some ⟨g', 0,none⟩) (es.length+1) cap') (es++[((a', c', bs'),(ra,rc,e.2.2.2++[(j:Int)]))]) i (j+1):=by
 have hB49:Below W4.heap.size W4 (W8.alloc (.cells #[.slice (some a') N c', .slice ra (e.2.2.2.length+1) rc] 188)):=hB48.alloc hB48.size _
 have hok:WayOk F.length (W8.alloc (.cells #[.slice (some a') N c', .slice ra (e.2.2.2.length+1) rc] 188)) ((a', c', bs'),(ra,rc,e.2.2.2++[(j:Int)])):=by
  refine⟨?_,?_⟩
  ·dsimp only
   rw[<-hN];exact hb.below hB49
  ·dsimp only
   rw[List.length_append,List.length_singleton];exact owns_base (World.ownsRow.alloc hown _) (zzn _)
 have hcells:∀j2 u,(wayV F.length ((a', c', bs'),(ra,rc,e.2.2.2++[(j:Int)])))[j2]? = some u->(W8.alloc (.cells #[.slice (some a') N c', .slice ra (e.2.2.2.length+1) rc] 188)).cell? ((⟨W8.heap.size,0,none⟩:Addr).add j2)=some u:=by
  unfold wayV;dsimp only;rw[List.length_append,List.length_singleton,<-hN];exact two_new W8 _ _ _
 obtain⟨v', W10,hrun,⟨g', cap', rfl⟩,hways,hgrow⟩:=Ways.put (hI.ways.below hB49) _ hok oo (by have:=hB49.size;have:=hI.bel.size;omega) W8.heap.size 1 hcells
 have hBW9:=hI.bel.trans (hB49.mono hI.bel.size)
 exact⟨g', cap', W10,hrun,hI.put he rfl hm (by have:=hb.1;rw[<-hN];exact this) hno hways (hBW9.grown hgrow hBW9.size (fun k e=>owned_base hI.ways.row e))⟩
theorem word_putF {W4 W6:World}{ua:Option Addr}{uc m:Nat}{xu:List Int}(j:Nat)(_hm:m=xu.length)(hB:Below W4.heap.size W4 W6)(hown:W6.ownsRow W4.heap.size 3 1 (.slice ua m uc) m (intsV xu)) :
  Hid ((W6.alloc (.cells #[.int .i64 (j:Int)] 3)).ownsRow W4.heap.size 3 1 (.slice ua m uc) m (intsV xu)/\Ints (W6.alloc (.cells #[.int .i64 (j:Int)] 3)) (some ⟨W6.heap.size,0,none⟩) 1 [(j:Int)]/\Below W4.heap.size W4 (W6.alloc (.cells #[.int .i64 (j:Int)] 3))) :=
 ⟨World.ownsRow.alloc hown _,Ints.one (World.alloc_heap_new W6 _),hB.alloc hB.size _⟩
theorem k81{p:Prop}(h:p:=by
  go_wp2_with fail
  go_roundg (16 - j)
  case measure=>omega
  case rel=>exact⟨j+1,es2,oo,oo,by first | rfl | go_num,HN.out⟩
  ):p:=h
theorem reffill_calls (n:Nat)(t:DataW Unit)(v:Value)(ga:Option Addr)(gl gc:Nat)(gs:List Grp)(za:Option Addr)(zl zc:Nat)(zs:List Int)(w:World)(h:Ex w n t v)(hN:named n t)(hsz:size subs n t<=25)(hG:Groups w ga gl gs)(hZ:Ints w za zl zs) :
  Calls Tryz.prog 97 #[v,.slice ga gl gc,.slice za zl zc] w fun e w' => FilledR gs n t zs w w' e:=by
 have hb:cnt n t<=1152921504606846976:=by rw[cnt_size];omega
 obtain⟨k,s,ka,kl,kc,rfl⟩:∃k s a len cap,v=.agg #[.int .i64 k,.string s,.slice a len cap]:=by
  exact k106
 obtain⟨w1,hw1⟩:∃w1,w1=w.alloc (.cells #[.int .i64 k,.string s,.slice ka kl kc] 69):=⟨_,rfl⟩
 have hB1:Below w.heap.size w w1:=by rw[hw1];exact(zzd _ w).alloc (zzb _) _
 have m0:w1.heap[w.heap.size]? = some (.cells #[.int .i64 k,.string s,.slice ka kl kc] 69 (0,0)):=by rw[hw1];exact World.alloc_heap_new w _
 have hlt1:w.heap.size<w1.heap.size:=(zza.1 m0).1
 have HK:Hid (∀X:World,Below w1.heap.size w1 X->X.cell? ⟨w.heap.size,0,none⟩=some (.int .i64 k)/\X.cell? ⟨w.heap.size,1,none⟩=some (.string s)/\X.cell? ⟨w.heap.size,2,none⟩=some (.slice ka kl kc)):=fun X hX=>by
  exact k132
 have HW1:Hid (w.alloc (.cells #[.int .i64 k,.string s,.slice ka kl kc] 69)=w1):=hw1.symm
 have HBW:Hid (∀X,Below w1.heap.size w1 X->Below w.heap.size w X):=fun X hX=>hB1.trans (hX.mono hB1.size)
 have HC:Hid (Calls Tryz.prog 74 #[.agg #[.int .i64 k,.string s,.slice ka kl kc],.slice ga gl gc] w1 fun e w' => e=.returned (.int .i64 (chk n t gs))/\Below w1.heap.size w1 w'):=refcheck_calls n t _ ga gl gc gs w1 (Ex.below hB1 _ _ _ h) hN hb (hG.below hB1)
 obtain⟨q0,q1,q2⟩:=HK.out w1 (zzd _ _)
 have hzi:(zl:Int)<=9223372036854775807:=by have:=hZ.2.1;omega
 have HZL:Hid (zs.length=zl):=hZ.1
 obtain⟨f,hf⟩:∃f,chk n t gs=f:=⟨_,rfl⟩
 by_cases hf0:f≠0
 ·have e0:(f==0)=false:=by simpa using hf0
  (have e1:(f != 0)=true:=by simp[bne,e0]);rw[hf] at HC;(have HF:Hid (chk n t gs≠0):=by rw[hf];exact hf0);clear h hN hb hG hB1 m0 hlt1 hw1 hZ hf;go_enter Tryz.func97,Tryz.ntmps97;(go_wp2_with fail);rw[HW1.out];refine HC.out.mono ?_;rintro e X ⟨rfl,hX⟩;have HEND:Hid (Below w.heap.size w X):=HBW.out X hX;clear hX;go_wp2;go_ret2;exact⟨HEND.out,.inl ⟨.inl HF.out,rfl⟩⟩
 ·have hf0:f=0:=Classical.not_not.1 hf0
  subst hf0;rw[hf] at HC;have hb0:((0:Int) != 0)=false:=rfl;(have HM:Hid (∀X,Below w1.heap.size w1 X->_):=fun X hX=>ran_of h hG hZ (gc:=gc) (zc:=zc) hf X (HBW.out X hX));have HH:Hid (chk n t gs=0):=hf;have HNM:Hid (nm (netF gs n t)<=25):=Nat.le_trans (nm_netF gs n t) hsz;clear h hN hb hG hB1 m0 hlt1 hw1 hZ hf hsz;go_enter Tryz.func97,Tryz.ntmps97;(go_wp2_with fail);rw[HW1.out];refine HC.out.mono ?_;rintro e X ⟨rfl,hX⟩;have HMX:=HM.out X hX;obtain⟨r0,r1,r2⟩:=HK.out X hX;have HBX:Hid (Below w.heap.size w X):=HBW.out X hX;clear hX HM HC;(go_wp2_with fail);refine HMX.mono ?_;rintro e W ⟨Bn,rfl,hNet,hBW,hrun⟩;have HNet:Hid (NetOk X W Bn (netF gs n t)):=hNet;have HBB:Hid (Below w.heap.size w W):=HBX.out.trans (hBW.mono HBX.out.size);clear hNet hBW HMX;(go_wp2_with fail);refine hrun.mono ?_;rintro e W2 ⟨a,c,bs,i,rfl,hbs,hR,hB2⟩;have hlen:=HZL.out;have HB2:Hid (Below w.heap.size w W2):=HBB.out.trans (hB2.mono HBB.out.size);have hii:i<=zl:=by have:=hR.1;omega
  by_cases hiz:i≠zl
  ·have hd:decide ((i:Int)<(zl:Int))=true:=by simp;omega
   (have hdn:i<zl:=by omega);have hdn2:(i:Int)<(zl:Int):=by omega
   have HNO:Hid (¬PreD gs n t zs):=fun hp=>by
    have hL:=ran_long HH.out hR;exact hiz ((long_all hL hp).trans hlen)
   clear hbs hR hB2 hrun hlen hiz;go_wp2;go_ret2;exact⟨HB2.out,.inl ⟨.inr HNO.out,rfl⟩⟩
  have hiz:i=zl:=Classical.not_not.1 hiz;subst hiz;have hd:decide ((i:Int)<(i:Int))=false:=by simp
  have HPRE:Hid (PreD gs n t zs):=by
   have hL:=ran_long HH.out hR;have h2:=hL.2.1;rw[<-hlen,List.take_length] at h2;exact h2
  obtain⟨N,hN⟩:∃N,N=(netF gs n t).length:=⟨_,rfl⟩;(have hN50:N<=50000:=by rw[hN];exact(netF_nets HH.out).2.1);have hN2:2<=N:=by rw[hN];exact HNet.out.two
  have HI0:Hid (FIn (netF gs n t) zs W2 (W2.alloc (.cells #[.slice (some a) N c,.slice none 0 0] 188)) (.slice (some ⟨W2.heap.size,0,none⟩) 1 1) [((a,c,bs),(none,0,[]))] 0 0):=by
   rw[<-hlen] at hR;rw[hN];exact first_way hbs hR
  (have HNK:Hid (∀wr:World,Below W2.heap.size W2 wr->NetOk X wr Bn (netF gs n t)):=fun wr hwr=>HNet.out.keep (hB2.trans (hwr.mono hB2.size)));rw[<-hN];clear hbs hR hB2 hrun hlen HNet;obtain⟨M,hM⟩:∃M,M=2 ^ nm (netF gs n t)+1:=⟨_,rfl⟩
  have hM2:M<=33554433:=by
   rw[hM]
   have:2 ^ nm (netF gs n t)<=2 ^ 25:=Nat.pow_le_pow_right oo HNM.out
   omega
  (have HFEW:Hid (∀(wr:World) (v:Value) (es:List Wy) (i t' : Nat),FIn (netF gs n t) zs W2 wr v es i t' -> es.length<=M):=fun wr v es i t' hI=>by rw[hM];exact hI.few);have HNN:Hid (N=(netF gs n t).length):=hN;clear hM hN HNM;go_wp2
  go_loopg [11,12] (M+1) (fun gk u v wr=>∃(i:Nat) (es:List Wy),i<=es.length/\M<i+gk/\v=.int .i64 (i:Int)/\FIn (netF gs n t) zs W2 wr u es i 0)
  case atStart=>exact⟨0,_,zzn _,oo,rfl,HI0.out⟩
  case round=>
   obtain⟨i2,es,hi2,hgk,rfl,hI⟩:=hrel;clear HI0;have hel:=HFEW.out _ _ _ _ _ hI;obtain⟨ua,uc,rfl⟩:=owns_shape hI.ways.row
   by_cases hlt:i2<es.length
   ·obtain⟨g,cap,e,hcell⟩:=hI.ways.cell oo
    (injection e with e1 e2 e3);subst e1 e3;obtain⟨x,hx⟩:∃x,es[i2]? = some x:=⟨_,zze hlt⟩;have hxm:=zzj hx;obtain⟨b,o,y,hy1,hy2,hy3⟩:=(hI.ways.ok x hxm).bools.at (i:=1) (by rw[<-HNN.out];omega);(have hii2:(i2:Int)<(es.length:Int):=by omega);(have hi0:(0:Int)<=(i2:Int):=by omega);(have hei:(es.length:Int)<=33554433:=by omega);have c1:=hcell wr (zzd _ _) i2 x hx;have c2:=hy3 wr (zzd _ _);rw[<-HNN.out] at c1;obtain⟨⟨xa,xc,xb⟩,xl,xlc,xu⟩:=x;dsimp only at c1 hy1 hy2;(injection hy1 with hy1);subst hy1;have HI:Hid (FIn (netF gs n t) zs W2 wr (.slice (some ⟨g,0,none⟩) es.length uc) es i2 0/\es[i2]? = some ((⟨b,o,none⟩,xc,xb),xl,xlc,xu)):=⟨hI,hx⟩;obtain⟨c10,c11⟩:=c1
    by_cases hyt:y=true
    ·subst hyt
     have HB:Hid (BestD gs n t zs xu/\Ints wr xl xu.length xu/\Below w.heap.size w wr):=by
      refine⟨hI.best HH.out hx ((hI.mean _ hxm 1).1 hy2),?_,HB2.out.trans (hI.bel.mono HB2.out.size)⟩;have hsh:=hI.short i2 _ hx;dsimp only at hsh;obtain⟨a', c', e,hints⟩:=owned_ints (hI.ways.ok _ hxm).row (by dsimp only;omega);(injection e with e1);subst e1;exact hints
     clear hI hx hxm hcell hy2 hy3 HI HFEW HNK;go_wp2;go_ret2;exact⟨HB.out.2.2,.inr ⟨HH.out,HPRE.out,xl,xlc,xu,rfl,HB.out.2.1,HB.out.1⟩⟩
    ·have hyf:y=false:=by simpa using hyt
     subst hyf
     have HNE:Hid (¬behind (netF gs n t) zs xu 1):=fun h1=>by
      have:=(hI.mean _ hxm 1).2 h1
      rw[hy2] at this;cases this
     clear hI hx hxm hcell hy2 hy3 hyt;go_wp2_with fail
     go_loopg [11,13] 17 (fun gk u v wr=>∃(j:Nat) (es:List Wy),j<=16/\16<j+gk/\v=.int .i64 (j:Int)/\FIn (netF gs n t) zs W2 wr u es i2 j/\es[i2]? = some ((⟨b,o,none⟩,xc,xb),xl,xlc,xu))
     case atStart=>exact⟨0,es,oo,oo,rfl,HI.out⟩
     case round=>
      obtain⟨j,es2,hj,hgk2,rfl,hI,hx⟩:=hrel;clear HI;have hel2:=HFEW.out _ _ _ _ _ hI;have hi3:i2<es2.length:=(zzc.1 hx).1;obtain⟨g2,cap2,rfl,hcell⟩:=hI.ways.cell oo
      by_cases hj16:j<16
      ·have hdj:decide ((j:Int)<16)=true:=by simp;omega
       (have hii2:(i2:Int)<(es2.length:Int):=by omega);(have hei2:(es2.length:Int)<=33554433:=by omega);have hxm:=zzj hx;have c1:=hcell wr (zzd _ _) i2 _ hx;dsimp only at c1;rw[<-HNN.out] at c1;obtain⟨c10,c11⟩:=c1;have HST:=stepped_way HH.out (HNK.out wr hI.bel) (hI.ways.ok _ hxm).bools (hI.mean _ hxm) (j:Int);dsimp only at HST;rw[<-HNN.out] at HST;have HI:Hid (FIn (netF gs n t) zs W2 wr (.slice (some ⟨g2,0,none⟩) es2.length cap2) es2 i2 j/\es2[i2]? = some ((⟨b,o,none⟩,xc,xb),xl,xlc,xu)):=⟨hI,hx⟩
       have HCL:Hid (∀X:World,Below wr.heap.size wr X->X.cell? ⟨g2,i2 * 2,none⟩=some (.slice (some ⟨b,o,none⟩) N xc)/\X.cell? ⟨g2,i2 * 2+1,none⟩=some (.slice xl xu.length xlc)):=fun X hX=>by
        have:=hcell X hX i2 _ hx
        rw[<-HNN.out] at this;exact this
       clear hI hx hxm hcell;(go_wp2_with fail);refine HST.mono ?_;rintro e W3 ⟨a', c', bs', sm,rfl,hb', hm', hs', hB3⟩;have HI3:Hid (FIn (netF gs n t) zs W2 W3 (.slice (some ⟨g2,0,none⟩) es2.length cap2) es2 i2 j/\es2[i2]? = some ((⟨b,o,none⟩,xc,xb),xl,xlc,xu)):=⟨HI.out.1.below hB3,HI.out.2⟩;clear HI HST;cases sm with
       | false=>
        have HN:Hid (FIn (netF gs n t) zs W2 W3 (.slice (some ⟨g2,0,none⟩) es2.length cap2) es2 i2 (j+1)/\es2[i2]? = some ((⟨b,o,none⟩,xc,xb),xl,xlc,xu)):=⟨HI3.out.1.skip HI3.out.2 (fun hp=>by cases hs'.2 hp),HI3.out.2⟩;clear HI3 hb' hm' hs' hB3 HCL;exact k81
       | true=>
        have HSEEN:=seen_calls W3 _ N g2 cap2 es2 (by rw[HNN.out];exact HI3.out.1.ways) (some a') c' bs' (by rw[HNN.out];rw[<-HNN.out];exact hb') oo;have HB' : Hid (Bools W3 (some a') N bs' /\ (∀q:Nat,bs'[q]? = some true↔behind (netF gs n t) zs (xu++[(j:Int)]) q)):=⟨hb', hm'⟩;have HB3:Hid (Below wr.heap.size wr W3):=hB3;clear hb' hm' hs' hB3;(go_wp2_with fail);refine HSEEN.mono ?_;rintro e W4 ⟨r,rfl,hr,hB4⟩;have HI4:Hid (FIn (netF gs n t) zs W2 W4 (.slice (some ⟨g2,0,none⟩) es2.length cap2) es2 i2 j/\es2[i2]? = some ((⟨b,o,none⟩,xc,xb),xl,xlc,xu)):=⟨HI3.out.1.below hB4,HI3.out.2⟩;have HB4:Hid (Bools W4 (some a') N bs' /\ (∀q:Nat,bs'[q]? = some true↔behind (netF gs n t) zs (xu++[(j:Int)]) q)):=⟨HB'.out.1.below hB4,HB'.out.2⟩;have c4:=HCL.out W4 (HB3.out.trans (hB4.mono HB3.out.size));clear HI3 HB' HB3 hB4 HSEEN HCL;obtain⟨c40,c41⟩:=c4;cases r with
        | true=>
         have HN:Hid (FIn (netF gs n t) zs W2 W4 (.slice (some ⟨g2,0,none⟩) es2.length cap2) es2 i2 (j+1)/\es2[i2]? = some ((⟨b,o,none⟩,xc,xb),xl,xlc,xu)):=by
          obtain⟨y,hy,hyb⟩:=hr.1 rfl;exact⟨HI4.out.1.seen HI4.out.2 hy HB4.out.2 hyb,HI4.out.2⟩
         clear HI4 HB4 hr;exact k81
        | false=>
         have hsh:xu.length<=i2:=HI4.out.1.short i2 _ HI4.out.2;have hxm:=zzj HI4.out.2;have hxr:=(HI4.out.1.ways.ok _ hxm).row
         have hxi:Ints W4 xl xu.length xu:=by
          obtain⟨a9,c9,e9,hxi⟩:=owned_ints hxr (by dsimp only;omega);(injection e9 with e91);subst e91;exact hxi
         (have hxn:xl=none->xlc=0:=fun e=>filled_none hxr (a:=xl) (c:=xlc) rfl e);have hB45:Below W4.heap.size W4 (W4.alloc (.cells #[] 3)):=(zzd _ W4).alloc (zzb _) _;have hown0:=owned_nil W4 W4.heap.size (zzb _);have hxi5:=hxi.below hB45;(have hs1:0+xu.length<=1000000000:=by omega);have hb1:W4.heap.size<=(W4.alloc (.cells #[] 3)).heap.size:=hB45.size;have c50:(W4.alloc (.cells #[] 3)).cell? ⟨g2,i2 * 2+1,none⟩=some (.slice xl xu.length xlc):=(hB45.cell (p:=⟨g2,i2 * 2+1,none⟩) (World.block_lt_of_cell? W4 _ c41)).trans c41;have HOWN0:Hid ((W4.alloc (.cells #[] 3)).ownsRow W4.heap.size 3 1 (.slice (some ⟨W4.heap.size,0,none⟩) 0 0) 0 (intsV [])):=hown0;have HXI5:Hid (Ints (W4.alloc (.cells #[] 3)) xl xu.length xu):=hxi5;(have HR0:Hid (¬∃x∈es2,x.1.2.2=bs'):=fun e=>by cases hr.2 e);have HXN:Hid (xl=none->xlc=0):=hxn;have HB45:Hid (Below W4.heap.size W4 (W4.alloc (.cells #[] 3))):=hB45;clear hxm hxr hxi hown0 hxi5 hr hxn hB45 c10 c11 c40;have hs2:xu.length+1<=1000000000:=by omega
         go_wp2_with (first
          | (at_builtin;refine wpList_append_ints rfl (.tmp 78) (.tmp 83) rfl W4.heap.size _ 0 [] rfl HOWN0.out xl xu.length xlc xu rfl HXN.out HXI5.out hs1 hb1 ?_;intro v1 W6 hown1 hB56;rw[Nat.zero_add,List.nil_append] at hown1;obtain⟨ua1,uc1,rfl⟩:=owns_shape hown1;have HWP:=word_putF j rfl (HB45.out.trans hB56) hown1;clear hown1 hB56 HOWN0 HXI5 HXN)
          | (at_builtin;refine wpList_append_ints rfl (.tmp 84) (.tmp 86) rfl W4.heap.size _ xu.length xu rfl HWP.out.1 _ 1 1 [(j:Int)] rfl (fun e=>by cases e) HWP.out.2.1 hs2 HWP.out.2.2.size ?_;intro v2 W8 hown2 hB78;obtain⟨ra,rc,rfl⟩:=owns_shape hown2;obtain⟨g', cap', W10,hrun,hput⟩:=way_put (c' := c') HI4.out.1 HI4.out.2 HNN.out oo HB4.out.1 HB4.out.2 HR0.out (HWP.out.2.2.trans hB78) hown2;have HPUT:Hid (FIn (netF gs n t) zs W2 W10 (.slice (some ⟨g', 0,none⟩) (es2.length+1) cap') (es2++[((a', c', bs'),(ra,rc,xu++[(j:Int)]))]) i2 (j+1)):=hput;have HRUN:Hid (_=_):=hrun;clear hown2 hB78 hput hrun)
          | (at_builtin;refine wpList_run_append rfl (.tmp 76) (.tmp 89) 189 rfl _ _ _ _ rfl rfl HRUN.out ?_)
          | fail)
         go_roundg (16 - j)
         case measure=>omega
         case rel=>
          refine⟨j+1,es2++[((a', c', bs'),(ra,rc,xu++[(j:Int)]))],oo,oo,by first | rfl | go_num,?_,?_⟩
          ·exact HPUT.out
          ·rw[List.getElem?_append_left hi3]
           exact HI4.out.2
      ·obtain rfl:j=16:=by omega
       (have hdj:decide (((16:Nat):Int)<16)=false:=by simp);have HN:Hid (FIn (netF gs n t) zs W2 wr (.slice (some ⟨g2,0,none⟩) es2.length cap2) es2 (i2+1) 0):=hI.next hx HNE.out;clear hI hx hcell;go_wp2_with fail
       go_roundg (M - i2)
       case measure=>omega
       case rel=>exact⟨i2+1,es2,oo,oo,by first | rfl | go_num,HN.out⟩
   ·have hd2:decide ((i2:Int)<(es.length:Int))=false:=by simp;omega
    have HE:Hid False:=hI.none HH.out oo HPRE.out;exact HE.out.elim
theorem sizeSpec:(Tryz.prog.info? 34).map (·.size)=some 7:=by kernel_rfl
theorem ones7 (n e:ByteArray)(f:Bool)(m l k:Int)(b:Bool):(#[Value.string n,.string e,.bool f,.int .i64 m,.int .i64 l,.int .i64 k,.bool b]:Array Value).all (·.oneCell')=true:=by
 rw[Array.all_eq_true_iff_forall_mem]
 intro v hv
 simp at hv
 rcases hv with rfl | rfl | rfl | rfl | rfl | rfl | rfl<;>rfl
def specR (ks:List KindD)(t:Int):SpecD:=if 1<=t/\t<ks.length then specOf ks t.toNat else zeroS
def specL (l:List SpecD)(t:Int):SpecD:=if 1<=t/\t<=l.length then (l[(t - 1).toNat]?).getD zeroS else zeroS
theorem k17{p:Prop}(h:p:=by
  rw[if_neg oo,show decide (1<=t/\t<=(len:Int))=false by simp;omega];unfold specV zeroS;dsimp only at *;have HV:=Hid.mk_ hV;clear h1 h3 hm hl3 hll hV hBV;go_enter Tryz.func19,Tryz.ntmps19;(go_wp2_with (first | (rw[<-HV.out];refine wpList_store_row rfl 34 _ _ rfl w.heap.size #[.string ⟨#[]⟩,.string ⟨#[]⟩,.bool false,.int .i64 0,.int .i64 0,.int .i64 0,.bool false] rfl rfl 34 _ HZ.out sizeSpec rfl (ones7 _ _ _ _ _ _ _) ?_) | fail));refine bodyPost_ret (results_row_tmp rfl _ _ w.heap.size 34 #[.string ⟨#[]⟩,.string ⟨#[]⟩,.bool false,.int .i64 0,.int .i64 0,.int .i64 0,.bool false] (0,0) _ rfl (setRow_heap _ _ _ _ _ _ HZ.out) Tryz.underlying34 rfl sizeSpec) rfl ?_;exact⟨rfl,HF.out _⟩
  ):p:=h
theorem rspec_calls {B:Nat}{whole:ByteArray}{a:Option Addr}{len cap:Nat}{l:List SpecD}{gs:List Grp}(w:World)(h:RSch w B whole a len cap l gs)(t:Int) :
  Calls Tryz.prog 19 #[.pointer (some ⟨B,0,none⟩),.int .i64 t] w fun e w' => e=.returned (.tuple #[specV (specL l t),.bool (decide (1<=t/\t<=(len:Int)))])/\Below w.heap.size w w' := by
 obtain⟨V,hV⟩:∃V,V=w.alloc (.cells #[.string ⟨#[]⟩,.string ⟨#[]⟩,.bool false,.int .i64 0,.int .i64 0,.int .i64 0,.bool false] 34):=⟨_,rfl⟩
 have hBV:Below w.heap.size w V:=by rw[hV];exact(zzd _ w).alloc (zzb _) _
 have HZ:Hid (V.heap[w.heap.size]? = some (.cells #[.string ⟨#[]⟩,.string ⟨#[]⟩,.bool false,.int .i64 0,.int .i64 0,.int .i64 0,.bool false] 34 (0,0))):=by rw[hV];exact World.alloc_heap_new w _
 have HF:Hid (∀cs,Below w.heap.size w (V.setRow w.heap.size cs)):=fun cs=>below_setRow hBV (zzb _) cs
 obtain⟨tr,ea,ec,ng,nc,h1,_,h3,_,_,_,h15⟩:=h
 have hm:=(hBV.block _ (zza.1 h1).1).trans h1
 have cL:V.cell? ⟨B,3,none⟩=some (.slice a len cap):=cell_of_row V B 3 _ _ _ hm
 have hl3:=h3.below hBV
 have hll:=h3.1
 have hli:(len:Int)<=15:=by omega
 unfold specL
 rw[hll]
 rw[hV] at cL
 by_cases p0:t<1
 ·have hd:decide (t<1)=true:=by simpa using p0
  exact k17
 have hd0:decide (t<1)=false:=by simpa using p0
 by_cases p1:(len:Int)<t
 ·have hd:decide ((len:Int)<t)=true:=by simpa using p1
  exact k17
 have hd1:decide ((len:Int)<t)=false:=by simpa using p1
 obtain⟨n,rfl⟩:∃n:Nat,t=(n:Int)+1:=⟨(t - 1).toNat,oo⟩
 rw[if_pos oo,show decide (1<=(n:Int)+1/\(n:Int)+1<=(len:Int))=true by simp;omega,show ((n:Int)+1 - 1).toNat=n by omega]
 obtain⟨b,o,x,rfl,_,hx,hsp⟩:=hl3.at (i:=n) oo
 obtain⟨s0,s1,s2,s3,s4,s5,s6⟩:=hsp V (zzd _ _)
 rw[hx]
 obtain⟨xn,xe,xf,xm,xl,xk,xb⟩:=x
 have hn0:(0:Int)<=(n:Int):=by omega
 have hnl:(n:Int)<(len:Int):=by omega
 have hns:(n:Int)+1 - 1=(n:Int):=by omega
 rw[hV] at s0 s1 s2 s3 s4 s5 s6
 unfold specV
 dsimp only[Option.getD_some] at *
 have HV:=Hid.mk_ hV
 clear h1 h3 hm hl3 hll hV hBV hx hsp
 go_enter Tryz.func19,Tryz.ntmps19
 go_wp2_with (first | (rw[<-HV.out];refine wpList_store_row rfl 34 _ _ rfl w.heap.size #[.string xn,.string xe,.bool xf,.int .i64 xm,.int .i64 xl,.int .i64 xk,.bool xb] rfl rfl 34 _ HZ.out sizeSpec rfl (ones7 _ _ _ _ _ _ _) ?_) | fail)
 refine bodyPost_ret (results_row_tmp rfl _ _ w.heap.size 34 #[.string xn,.string xe,.bool xf,.int .i64 xm,.int .i64 xl,.int .i64 xk,.bool xb] (0,0) _ rfl (setRow_heap _ _ _ _ _ _ HZ.out) Tryz.underlying34 rfl sizeSpec) rfl ?_
 exact⟨rfl,HF.out _⟩
theorem ks_len {ks:List KindD}{sp:List SpecD}(h:ks.map (·.1)=zeroS::sp):ks.length=sp.length+1:=by
 have:=congrArg List.length h
 rwa [List.length_map,List.length_cons] at this
theorem ks_spec {ks:List KindD}{sp:List SpecD}(h:ks.map (·.1)=zeroS::sp){n:Nat}{x:SpecD}(hx:(zeroS::sp)[n]? = some x):specOf ks n=x:=by
 rw[<-h,List.getElem?_map] at hx
 cases hk:ks[n]? with
 | none=>rw[hk] at hx;cases hx
 | some y=>
  rw[hk] at hx;(injection hx with hx);rw[specOf_some hk];exact hx
theorem ks_specL {ks:List KindD}{sp:List SpecD}(h:ks.map (·.1)=zeroS::sp){t:Int}(h1:1<=t)(h2:t<=sp.length):specOf ks t.toNat=specL sp t:=by
 obtain⟨n,rfl⟩:∃n:Nat,t=(n:Int)+1:=⟨(t - 1).toNat,oo⟩
 obtain⟨x,hx⟩:∃x,sp[n]? = some x:=⟨_,zze oo⟩
 unfold specL
 rw[if_pos ⟨h1,h2⟩,show ((n:Int)+1 - 1).toNat=n by omega,hx,show ((n:Int)+1).toNat=n+1 by omega]
 exact ks_spec h (by rw[List.getElem?_cons_succ];exact hx)
theorem firstE_all {G:List Grp}:∀{ss:List ByteArray},firstE ss G=0->∀s∈ss,readE s G=0:=by
 intro ss
 induction ss with
 | nil=>intro _ s hs;cases hs
 | cons q r ih=>
  intro h0 s hs;rw[firstE] at h0
  by_cases hq:readE q G=0
  ·rw[if_neg (by rw[hq];simp)] at h0
   rcases List.mem_cons.1 hs with rfl | hs
   ·exact hq
   ·exact ih h0 s hs
  ·rw[if_pos hq] at h0
   exact absurd h0 hq
theorem specR_specL {ks:List KindD}{sp:List SpecD}(hks:ks.map (·.1)=zeroS::sp)(t:Int):specL sp t=specR ks t:=by
 have hl:=ks_len hks
 by_cases h:1<=t/\t<=sp.length
 ·unfold specR
  rw[if_pos oo,ks_specL hks h.1 h.2]
 ·unfold specR specL
  rw[if_neg h,if_neg oo]
theorem rspec_ks {B:Nat}{whole:ByteArray}{a:Option Addr}{len cap:Nat}{sp:List SpecD}{gs:List Grp}{ks:List KindD}(w:World)(h:RSch w B whole a len cap sp gs)(hks:ks.map (·.1)=zeroS::sp)(t:Int) :
  Calls Tryz.prog 19 #[.pointer (some ⟨B,0,none⟩),.int .i64 t] w fun e w' => e=.returned (.tuple #[specV (specR ks t),.bool (decide (1<=t/\t<ks.length))])/\Below w.heap.size w w' := by
 have hl:=ks_len hks
 have hsl:sp.length=len:=by obtain⟨_,_,_,_,_,_,_,h3,_⟩:=h;exact h3.1
 have:=rspec_calls w h t
 rw[specR_specL hks t,show decide (1<=t/\t<=(len:Int))=decide (1<=t/\t<(ks.length:Int)) from by simp only[decide_eq_decide];omega] at this
 exact this
end Go.Proofs.YtjkebndkeamijaaGreatDoor
