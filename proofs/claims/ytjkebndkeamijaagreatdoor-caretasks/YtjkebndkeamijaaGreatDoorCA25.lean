/-
  PROVED HERE: what the texts DAIns, DAMayF, DAAwakeS, DACaretA, DACaretT say.
-/
import Derived.Shelf.Spec.SlicesInsertGrow
import Derived.Shelf.Slices.SearchI
import Derived.Test.YtjkebndkeamijaaGreatDoorCA24
set_option maxRecDepth 100000
set_option maxHeartbeats 1600000
namespace Go.Proofs.YtjkebndkeamijaaGreatDoor
open Go.RowKit
def gXy:Go.Shelf.Ren:=⟨fun | 21=>44 | 27=>84 | 28=>85 | 35=>116 | 39=>142 | n=>n,fun | 22=>61 | 3=>3 | 4=>4 | 0=>0 | n=>n,fun | n=>n⟩
theorem gUu:Go.Proofs.Lays2.n21 Tryz.prog gXy:={
 mixed:=by kernel_rfl
 f21:=Tryz.func44.trans (congrArg some kr)
 f27:=Tryz.func84.trans (congrArg some kr)
 f28:=Tryz.func85.trans (congrArg some kr)
 f35:=Tryz.func116.trans (congrArg some kr)
 f39:=Tryz.func142.trans (congrArg some kr)
 t0:=Tryz.underlying0
 a0:=Tryz.isAgg0
 z0:=Tryz.sizeOf0
 v0:=Tryz.zeroValue0
 t3:=Tryz.underlying3
 a3:=Tryz.isAgg3
 z3:=Tryz.sizeOf3
 v3:=Tryz.zeroValue3
 t4:=Tryz.underlying4
 a4:=Tryz.isAgg4
 z4:=Tryz.sizeOf4
 v4:=Tryz.zeroValue4
 t22:=Tryz.underlying61
 a22:=Tryz.isAgg61
 z22:=Tryz.sizeOf61
 v22:=Tryz.zeroValue61
 i3:=by kernel_rfl }
def hHc:Go.Shelf.Ren:=⟨fun | 25=>43 | 31=>82 | 32=>83 | 37=>115 | n=>n,fun | 22=>61 | 3=>3 | 4=>4 | 40=>123 | 0=>0 | n=>n,fun | n=>n⟩
theorem hGy:Go.Proofs.Lays2.n25 Tryz.prog hHc:={
 mixed:=by kernel_rfl
 f25:=Tryz.func43.trans (congrArg some kr)
 f31:=Tryz.func82.trans (congrArg some kr)
 f32:=Tryz.func83.trans (congrArg some kr)
 f37:=Tryz.func115.trans (congrArg some kr)
 t0:=Tryz.underlying0
 a0:=Tryz.isAgg0
 z0:=Tryz.sizeOf0
 v0:=Tryz.zeroValue0
 t3:=Tryz.underlying3
 a3:=Tryz.isAgg3
 z3:=Tryz.sizeOf3
 v3:=Tryz.zeroValue3
 t4:=Tryz.underlying4
 a4:=Tryz.isAgg4
 z4:=Tryz.sizeOf4
 v4:=Tryz.zeroValue4
 t22:=Tryz.underlying61
 a22:=Tryz.isAgg61
 z22:=Tryz.sizeOf61
 v22:=Tryz.zeroValue61
 t40:=Tryz.underlying123
 a40:=Tryz.isAgg123
 z40:=Tryz.sizeOf123
 v40:=Tryz.zeroValue123 }
theorem pX (w:World)(q:Nat):Below w.heap.size w (w.drewN q):=⟨rfl,rfl,rfl,zzb _,fun _ _=>rfl⟩
theorem lS (b:Nat):∀(vs:List Value) (o:Nat) (w:World),(w.setCells b o vs).heap.size=w.heap.size
 | [],_,_=>rfl
 | v::r,o,w=>by rw[World.setCells,lS b r];simp
theorem wZ (b:Nat):∀(vs:List Value) (o:Nat) (w:World) (k:Nat),k≠b->(w.setCells b o vs).heap[k]? = w.heap[k]?
 | [],_,_,_,_=>rfl
 | v::r,o,w,k,h=>by rw[World.setCells,wZ b r _ _ k h];exact zzh w _ v k (fun e=>h e)
theorem oQ {B:Nat}{w w' : World}(h:Below B w w'){b:Nat}(hb:B<=b)(vs:List Value)(o:Nat):Below B w (w'.setCells b o vs):=by
 have key:∀(vs:List Value) (o:Nat) (X:World),(X.setCells b o vs).os=X.os/\(X.setCells b o vs).tape=X.tape/\(X.setCells b o vs).output=X.output:=by
  intro vs
  induction vs with
  | nil=>intro o X;exact⟨rfl,rfl,rfl⟩
  | cons v r ih=>
   intro o X;rw[World.setCells];obtain⟨h1,h2,h3⟩:=ih (o+1) (X.setCell ⟨b,o,none⟩ v);exact⟨h1.trans rfl,h2.trans rfl,h3.trans rfl⟩
 obtain⟨k1,k2,k3⟩:=key vs o w'
 exact⟨k1.trans h.os,k2.trans h.tape,k3.trans h.output,by rw[lS];exact h.size,fun k hk=>(wZ b vs o w' k oo).trans (h.block k hk)⟩
theorem gKj (b o n c:Nat)(zs:List Int)(x:Int)(w:World)(h:kA w (some ⟨b,o,none⟩) n zs)(hn:n<=5000)(hs:zs.Pairwise (·<·)) :
  Calls Tryz.prog 43 #[.slice (some ⟨b,o,none⟩) n c,.int .i64 x] w fun e w' => ∃r:Bool,e=.returned (.tuple #[.int .i64 ((zs.countP (·<x):Nat):Int),.bool r])/\Below w.heap.size w w' := by
 have hl:=h.1
 refine(Any.slices_BinarySearch_int hGy b o n c zs x w oo oo (fun j hj=>?_) ?_).mono ?_
 ·obtain⟨b', o', p,h1,h2,h3⟩:=h.at (i:=j) oo
  cases h1;rw[List.getD_eq_getElem?_getD,h2];exact h3 w (zzd _ _)
 ·rw[zzm oo]
  exact hs.imp fun h=>by omega
 ·rintro e w' ⟨rfl,q,rfl⟩
  rw[zzm oo];exact⟨_,rfl,pX w q⟩
theorem gRg (c:Nat)(a:Option Addr)(x:Int)(w:World):Calls Tryz.prog 43 #[.slice a 0 c,.int .i64 x] w fun e w' => ∃r:Bool,e=.returned (.tuple #[.int .i64 0,.bool r])/\Below w.heap.size w w' := by
 go_enter Tryz.func43,Tryz.ntmps43
 go_wp2
 go_loopg [7,8] 1 (fun _ u v wr=>u=.int .i64 0/\v=.int .i64 0/\wr=w)
 case atStart=>exact⟨rfl,rfl,rfl⟩
 case round=>
  obtain⟨rfl,rfl,rfl⟩:=hrel;go_wp2;go_ret2;exact⟨_,rfl,⟨rfl,rfl,rfl,zzb _,fun _ _=>rfl⟩⟩
theorem gPc (zs:List Int):∀v∈iG zs,v.oneCell' = true:=fun v hv=>by
 unfold iG at hv
 obtain⟨z,_,rfl⟩:=List.mem_map.1 hv
 rfl
theorem rF {w:World}{b n:Nat}{zs:List Int}(hl:zs.length=n)(hn:n<=9223372036854775807)(hb:b<w.heap.size)(h:∀(j:Nat) (z:Int),zs[j]? = some z->w.cell? ⟨b,j,none⟩=some (.int .i64 z)):kA w (some ⟨b,0,none⟩) n zs :=
 ⟨hl,hn,.inr ⟨b,0,rfl,hb,fun i x hx=>by rw[Nat.zero_add];exact h i x hx⟩⟩
theorem oO {w:World}{b j:Nat}{cs:Array Value}{t:TypeId}{f:Nat×Nat}(h:w.heap[b]? = some (.cells cs t f)):w.cell? ⟨b,j,none⟩=cs[j]?:=by
 simp[World.cell?,h]
theorem hAp {zs:List Int}{i:Nat}{x:Int}(hi:i<=zs.length):∀(j:Nat) (z:Int),(zs.take i++x::zs.drop i)[j]? = some z->(j<i/\zs[j]? = some z)\/(j=i/\z=x)\/(i<j/\(zs.drop i)[j - (i+1)]? = some z):=fun j z hz=>by
 by_cases h1:j<i
 ·rw[List.getElem?_append_left (by rw[List.length_take];omega),List.getElem?_take_of_lt h1] at hz
  exact .inl ⟨h1,hz⟩
 ·rw[List.getElem?_append_right (by rw[List.length_take];omega),List.length_take,Nat.min_eq_left hi] at hz
  by_cases h2:j=i
  ·subst h2
   rw[Nat.sub_self] at hz;cases hz;exact .inr (.inl ⟨rfl,rfl⟩)
  ·rw[show j - i=(j - (i+1))+1 by omega,List.getElem?_cons_succ] at hz
   exact .inr (.inr ⟨oo,hz⟩)
theorem gLo (base:Nat)(wa:Option Addr)(n c:Nat)(zs:List Int)(i:Nat)(x:Int)(vb:Nat)(w:World)(hO:w.ownsRow base 3 1 (.slice wa n c) n (iG zs))(hi:i<=n)(hn:n<=5000)(hv:w.heap[vb]? = some (.cells #[.int .i64 x] 3 (0,0)))(hne:∀b,wa=some b->b.block≠vb)(hbase:base<=w.heap.size) :
  Calls Tryz.prog 44 #[.slice wa n c,.int .i64 (i:Int),.slice (some ⟨vb,0,none⟩) 1 1] w fun e w' => ∃a' c', e=.returned (.slice a' (n+1) c')/\kA w' a' (n+1) (zs.take i++x::zs.drop i)/\Below base w w' := by
 have hzl:zs.length=n:=by
  have:=hO.1
  unfold iG at this;rw[List.length_map] at this;omega
 have hil:(iG zs).length=n:=by unfold iG;rw[List.length_map];exact hzl
 have hol:(zs.take i++x::zs.drop i).length=n+1:=by rw[List.length_append,List.length_cons,List.length_take,List.length_drop];omega
 have hvs:∀(j:Nat) v,[Value.int .i64 x][j]? = some v->w.cell? ⟨vb,0+j,none⟩=some v:=fun j v hj=>by
  rw[Nat.zero_add,oO hv];rw[List.getElem?_toArray];exact hj
 have h1v:∀v∈[Value.int .i64 x],v.oneCell' = true:=fun v hv=>by rw[List.mem_singleton] at hv;subst hv;rfl
 have hdrop:∀j,((iG zs).drop i)[j]? = ((zs.drop i)[j]?).map (Value.int .i64):=fun j=>by unfold iG;rw[<-List.map_drop,List.getElem?_map]
 have htake:∀j,((iG zs).take i)[j]? = ((zs.take i)[j]?).map (Value.int .i64):=fun j=>by unfold iG;rw[<-List.map_take,List.getElem?_map]
 by_cases hend:i=n
 ·subst hend
  have e1:zs.take i++x::zs.drop i=zs++[x]:=by rw[zzm oo,List.drop_eq_nil_of_le oo]
  rw[e1] at hol ⊢
  by_cases hroom:i+1<=c
  ·rcases hO.2 with ⟨e,h0⟩ | ⟨g,cap,cur,e,hb,hg,hc1,hc2,hcs,hct⟩
   ·cases e;omega
   ·injection e with e1 e2 e3
    subst e1 e3;rw[Nat.mul_one] at hcs hct;refine(Any2.slices_Insert_int_end_room gUu g 0 i c vb 0 1 1 [.int .i64 x] w oo hroom (by unfold maxLen at hc2;omega) rfl (fun j hj=>?_) (fun j hj=>?_) hvs h1v).mono ?_
    ·rw[oO hg,Array.getElem?_eq_getElem oo];rfl
    ·simp[World.frozen?,hg]
    ·rintro e w' ⟨rfl,rfl⟩
     have hgl:g<w.heap.size:=(zza.1 hg).1;refine⟨_,_,rfl,rF hol oo (by rw[lS];exact hgl) (fun j z hz=>?_),oQ (zzd _ _) hb _ _⟩
     by_cases hj:j<i
     ·rw[World.cell?_setCells_out g _ _ w ⟨g,j,none⟩ (fun _ _=>.inl (by show j<0+i;omega)),oO hg]
      rw[List.getElem?_append_left oo] at hz
      have:=congrArg (·[j]?) hct
      simp only[List.getElem?_take_of_lt hj,Array.getElem?_toList] at this;rw[this];unfold iG;rw[List.getElem?_map,hz]
      rfl
     ·have hjl:=(zzc.1 hz).1
      (obtain rfl:j=i:=by omega);rw[List.getElem?_append_right oo,hzl,Nat.sub_self] at hz;cases hz
      have:=World.cell?_setCells_in g [.int .i64 x] (0+j) w (fun q hq=>?_) 0 (by simp)
      ·rw[Nat.add_zero,Nat.zero_add] at this
       rw[Nat.zero_add];exact this
      ·rw[oO hg,Array.getElem?_eq_getElem (by simp at hq;omega)];rfl
  ·have hnc:i<=c:=by
    rcases hO.2 with ⟨e,h0⟩ | ⟨g,cap,cur,e,hb,hg,hc1,_⟩
    ·cases e;omega
    ·injection e with _ _ e3;omega
   refine(Any2.slices_Insert_int_end_grow gUu wa i c vb 0 1 1 (iG zs) [.int .i64 x] w oo hnc oo oo hil rfl (fun e=>?_) (fun a ha j v hj=>?_) hvs h1v).mono ?_
   ·rcases hO.2 with ⟨_,h0⟩ | ⟨g,cap,cur,e', _⟩
    ·exact h0
    ·injection e' with e1;rw[e] at e1;cases e1
   ·obtain⟨g,cap,e', hc⟩:=gY hO (by have:=(zzc.1 hj).1;omega)
    (injection e' with e1);rw[ha] at e1;cases e1;rw[show (⟨g,0,none⟩:Addr).add j=⟨g,j,none⟩ by unfold Addr.add;split<;>simp_all];exact hc j v hj
   ·rintro e w' ⟨rfl,rfl⟩
    have hal:=World.alloc_heap_new w.drew (.cells ((iG zs++[Value.int .i64 x]).toArray++Builtin.zeroCells (Value.int .i64 0).cells (grownCap w (i+1) c (gXy.t 3) - (i+1))) (gXy.t 3));refine⟨_,_,rfl,rF hol oo (by rw[World.size_alloc];show w.heap.size<w.heap.size+1;omega) (fun j z hz=>?_),?_⟩
    ·have hj:=(zzc.1 hz).1
     have e2:iG zs++[Value.int .i64 x]=iG (zs++[x]):=by unfold iG;rw[List.map_append];rfl
     show World.cell? _ ⟨w.drew.heap.size,j,none⟩=_
     rw[oO hal,Array.getElem?_append_left (by rw[e2];unfold iG;simp;omega),e2,List.getElem?_toArray];unfold iG;rw[List.getElem?_map,hz]
     rfl
    ·have:Below w.heap.size w w.drew:=⟨rfl,rfl,rfl,zzb _,fun _ _=>rfl⟩
     exact(this.alloc (zzb _) _).mono hbase
 ·have hlt:i<n:=by omega
  obtain⟨g,cap,e', hc⟩:=gY hO oo;(injection e' with e1 _ e3);subst e1 e3;have hcs:∀(j:Nat) v,(iG zs)[j]? = some v->w.cell? ⟨g,0+j,none⟩=some v:=fun j v hj=>by rw[Nat.zero_add];exact hc j v hj
  by_cases hroom:n+1<=c
  ·rcases hO.2 with ⟨e,h0⟩ | ⟨g', cap', cur,e,hb,hg,hc1,hc2,hcz,hct⟩
   ·cases e
   ·injection e with e1 _ e3
    (injection e1 with e1);(injection e1 with e1);subst e1 e3;rw[Nat.mul_one] at hcz hct;(have hne' : vb≠g:=fun e=>hne _ rfl e.symm);(have hsome:∀j,j<c->(w.cell? ⟨g,j,none⟩).isSome=true:=fun j hj=>by rw[oO hg,Array.getElem?_eq_getElem oo];rfl);refine(Any2.slices_Insert_int_shift gUu g 0 n c i vb 0 1 1 (iG zs) [.int .i64 x] w hlt oo hroom (by unfold maxLen at hc2;omega) hne' hil rfl hcs (fun j hj=>by rw[Nat.zero_add];exact hsome j oo) (fun j hj=>by simp[World.frozen?,hg]) hvs (gPc zs) h1v 3 3 1 cur.size (by simp[World.shape?,hv]) (by simp[World.shape?,hg]) oo (by simp[World.frozen?,hv]) (by simp[World.frozen?,hv])).mono ?_;rintro e w' ⟨rfl,rfl⟩;have hgl:g<w.heap.size:=(zza.1 hg).1;(have hdl:((iG zs).drop i).length=n - i:=by rw[List.length_drop,hil]);have hd:Below w.heap.size w w.drew:=⟨rfl,rfl,rfl,zzb _,fun _ _=>rfl⟩;(have hs2:∀j,j<c->((w.drew.setCells g (0+(i+1)) ((iG zs).drop i)).cell? ⟨g,j,none⟩).isSome=true:=fun j hj=>isSome_setCells g _ _ w.drew (fun q hq=>by show (w.cell? _).isSome=true;exact hsome _ oo) j (by show (w.cell? _).isSome=true;exact hsome j hj));refine⟨_,_,rfl,rF hol oo (by rw[lS, lS];exact hgl) (fun j z hz=>?_),oQ (oQ (hd.mono hbase) hb _ _) hb _ _⟩;rcases hAp oo j z hz with ⟨h1,h2⟩ | ⟨rfl,rfl⟩ | ⟨h1,h2⟩
    ·rw[World.cell?_setCells_out g _ _ _ ⟨g,j,none⟩ (fun _ _=>.inl (by show j<0+i;omega)),World.cell?_setCells_out g _ _ _ ⟨g,j,none⟩ (fun _ _=>.inl (by show j<0+(i+1);omega))]
     show w.cell? _=_
     refine hc j _ ?_;unfold iG;rw[List.getElem?_map,h2]
     rfl
    ·have:=World.cell?_setCells_in g [.int .i64 z] (0+j) _ (fun q hq=>by simp at hq;subst hq;rw[Nat.add_zero,Nat.zero_add];exact hs2 j oo) 0 (by simp)
     rw[show 0+j+0=j by omega] at this;exact this
    ·rw[World.cell?_setCells_out g _ _ _ ⟨g,j,none⟩ (fun _ _=>.inr (by show 0+i+1<=j;omega))]
     have hq:j - (i+1)<((iG zs).drop i).length:=by
      have:=(zzc.1 h2).1
      rw[List.length_drop] at this;omega
     have:=World.cell?_setCells_in g ((iG zs).drop i) (0+(i+1)) w.drew (fun q hq=>by show (w.cell? _).isSome=true;exact hsome _ oo) (j - (i+1)) hq
     rw[show 0+(i+1)+(j - (i+1))=j by omega] at this;rw[this,<-zze hq,hdrop,h2]
     rfl
  ·have hnc:n<=c:=by
    rcases hO.2 with ⟨e,h0⟩ | ⟨g', cap,cur,e,hb,hg,hc1,_⟩
    ·cases e
    ·injection e with _ _ e3;omega
   refine(Any2.slices_Insert_int_grow gUu g 0 n c i vb 0 1 1 (iG zs) [.int .i64 x] w hlt oo hnc oo oo hil rfl hcs hvs (gPc zs) h1v).mono ?_;rintro e w' ⟨rfl,rfl⟩;obtain⟨gc,hgc⟩:∃gc,grownCap w (n+1) c (gXy.t 3)=gc:=⟨_,rfl⟩;rw[hgc];obtain⟨W1,hW1⟩:∃W1,w.alloc (.cells (((iG zs).take i).toArray++Builtin.zeroCells (Value.int .i64 0).cells (n+1 - i)++Builtin.zeroCells (Value.int .i64 0).cells (gc - (n+1))) (gXy.t 3))=W1:=⟨_,rfl⟩;have hal:=World.alloc_heap_new w (.cells (((iG zs).take i).toArray++Builtin.zeroCells (Value.int .i64 0).cells (n+1 - i)++Builtin.zeroCells (Value.int .i64 0).cells (gc - (n+1))) (gXy.t 3));(have hsz1:W1.heap.size=w.heap.size+1:=by rw[<-hW1,World.size_alloc]);(have hB1:Below w.heap.size w W1:=by rw[<-hW1];exact(zzd _ w).alloc (zzb _) _);rw[hW1] at hal ⊢;(have htl:((iG zs).take i).length=i:=by rw[List.length_take,hil];omega);have hzc:∀m,(Builtin.zeroCells (Value.int .i64 0).cells m).size=m:=fun m=>by simp[Builtin.zeroCells,Value.cells]
   have hsome:∀j,j<n+1->(W1.cell? ⟨w.heap.size,j,none⟩).isSome=true:=fun j hj=>by
    rw[oO hal,Array.getElem?_eq_getElem (by simp only[Array.size_append,hzc,List.size_toArray,htl];omega)];rfl
   (have hsome2:∀j,j<n+1->((W1.drew.setCells w.heap.size i [.int .i64 x]).cell? ⟨w.heap.size,j,none⟩).isSome=true:=fun j hj=>isSome_setCells _ _ _ W1.drew (fun q hq=>by show (W1.cell? _).isSome=true;simp at hq;exact hsome _ oo) j (by show (W1.cell? _).isSome=true;exact hsome j hj));have hB2:Below w.heap.size w W1.drew:=⟨hB1.os,hB1.tape,hB1.output,hB1.size,hB1.block⟩;have hB3:=oQ hB2 (zzb _) [.int .i64 x] i;have hB4:Below w.heap.size w (W1.drew.setCells w.heap.size i [.int .i64 x]).drew:=⟨hB3.os,hB3.tape,hB3.output,hB3.size,hB3.block⟩;refine⟨_,_,rfl,rF hol oo (by rw[lS];show w.heap.size<(W1.drew.setCells _ _ _).heap.size;rw[lS];show w.heap.size<W1.heap.size;omega) (fun j z hz=>?_),(oQ hB4 (zzb _) _ _).mono hbase⟩;rcases hAp oo j z hz with ⟨h1,h2⟩ | ⟨rfl,rfl⟩ | ⟨h1,h2⟩
   ·rw[World.cell?_setCells_out _ _ _ _ ⟨w.heap.size,j,none⟩ (fun _ _=>.inl (by show j<i+1;omega))]
    show (W1.drew.setCells w.heap.size i [.int .i64 x]).cell? _=_
    rw[World.cell?_setCells_out _ _ _ _ ⟨w.heap.size,j,none⟩ (fun _ _=>.inl (by show j<i;omega))]
    show W1.cell? _=_
    rw[oO hal,Array.getElem?_append_left (by simp only[Array.size_append,hzc,List.size_toArray,htl];omega),Array.getElem?_append_left (by simp only[List.size_toArray,htl];omega),List.getElem?_toArray,htake,List.getElem?_take_of_lt h1,h2]
    rfl
   ·rw[World.cell?_setCells_out _ _ _ _ ⟨w.heap.size,j,none⟩ (fun _ _=>.inl (by show j<j+1;omega))]
    show (W1.drew.setCells w.heap.size j [.int .i64 z]).cell? _=_
    exact World.cell?_setCells_in w.heap.size [.int .i64 z] j W1.drew (fun q hq=>by show (W1.cell? _).isSome=true;simp at hq;exact hsome _ oo) 0 (by simp)
   ·have hdl:((iG zs).drop i).length=n - i:=by rw[List.length_drop,hil]
    have hq:j - (i+1)<((iG zs).drop i).length:=by
     have:=(zzc.1 h2).1
     rw[List.length_drop] at this;omega
    have:=World.cell?_setCells_in w.heap.size ((iG zs).drop i) (i+1) (W1.drew.setCells w.heap.size i [.int .i64 x]).drew (fun q hq=>by show ((W1.drew.setCells w.heap.size i [.int .i64 x]).cell? _).isSome=true;exact hsome2 _ oo) (j - (i+1)) hq
    rw[show i+1+(j - (i+1))=j by omega] at this;rw[this,<-zze hq,hdrop,h2]
    rfl
def lK (l:List Tok)(p t:Int):List Int:=(iD l (kids l (gB l p))).take ((kids l (gB l p)).countP (·<p))++t::(iD l (kids l (gB l p))).drop ((kids l (gB l p)).countP (·<p))
theorem gFa {ks:List gN}{gs:List Grp}{ts:List (DataW Unit)}{l:List Tok}(hk:∀(k:Nat),k<l.length->0<=kindAt l k/\kindAt l k<=3)(hw:gJw ks gs ts l){i:Nat}{x:Tok}(hx:l[i]? = some x)(h1:x.k=1):1<=x.t/\x.t<ks.length:=by
 have hi:=(zzc.1 hx).1
 have hki:=iF hx
 have hm:=wR l i hi ⟨oo,hk i hi⟩
 have hf:=(gKb.1 hw (gB l (i:Int)) (lM l i oo)).1 _ hm
 rw[Int.toNat_natCast,hx] at hf
 unfold nE at hf
 simp only[Option.getD_some] at hf
 rw[if_neg oo] at hf
 split at hf
 ·assumption
 ·cases hf
theorem hCw (ps:List Int)(p:Int):ps.countP (·<p)<=ps.length:=List.countP_le_length
theorem k121{p:Prop}(h:p:=by
  go_wp2;go_ret
  first | exact⟨false,rfl,iff_of_false (by simp) HN.out,HB1.out⟩ | exact .inl ⟨rfl,HN.out,HB1.out⟩
  ):p:=h
theorem k41{p:Prop}(h:p:=by
  (have HN:Hid (¬(0<=p/\p<=(len:Int)/\(iR ks gs ts l).2=0/\iZ gs 200 (iQ ts l (gB l p)) (lK l p t))):=fun h=>by omega);generalize (0<=p/\p<=(len:Int)/\(iR ks gs ts l).2=0/\iZ gs 200 (iQ ts l (gB l p)) (lK l p t))=PP at *;clear h hl HV;go_enter Tryz.func14,Tryz.ntmps14;go_wp2;go_ret
  first | exact⟨false,rfl,iff_of_false (by simp) HN.out,HR.out⟩ | exact .inl ⟨rfl,HN.out,HR.out⟩
  ):p:=h
theorem gRc {B g c ng nc:Nat}{ks:List gN}{gs:List Grp}{ts:List (DataW Unit)}(w:World)(h:qP w B g c ng nc ks gs ts)(h0:0<ks.length)(a:Option Addr)(len cap:Nat)(l:List Tok)(hl:mC w a len l)(hlie:gBw a len cap)(hsz:len<=4398046511104)(p t:Int) :
  Calls Tryz.prog 14 #[.pointer (some ⟨B,0,none⟩),.slice a len cap,.int .i64 p,.int .i64 t] w fun e w' => ∃r:Bool,e=.returned (.bool r)/\(r=true↔(0<=p/\p<=(len:Int)/\(iR ks gs ts l).2=0/\iZ gs 200 (iQ ts l (gB l p)) (lK l p t)))/\Below w.heap.size w w' := by
 have hlen:(len:Int)<=4398046511104:=by omega
 have HR:Hid (Below w.heap.size w w):=zzd _ _
 have HV:=gIa w h h0 a len cap l hl hlie hsz
 by_cases p0:p<0
 ·have hd:decide (p<0)=true:=by simpa using p0
  exact k41
 have hd0:decide (p<0)=false:=by simpa using p0
 by_cases p1:(len:Int)<p
 ·have hd:decide ((len:Int)<p)=true:=by simpa using p1
  exact k41
 have hd1:decide ((len:Int)<p)=false:=by simpa using p1
 by_cases hz:(iR ks gs ts l).2=0
 ·obtain⟨n,rfl⟩:∃n:Nat,p=(n:Int):=⟨p.toNat,oo⟩
  rw[hz,show ((0:Int)==0)=true from rfl] at HV;obtain⟨ok,wl⟩:=gAc.1 hz;obtain⟨hl48,hgo⟩:=(rL l).1 ok;have hll:=hl.1;(have h48:len<=2048:=by omega);have hkr:=qL hgo;have hpl:=lM l n oo
  have hty:∀i:Nat,gB l (n:Int)=(i:Int)->∃x,l[i]? = some x/\1<=x.t/\x.t<ks.length:=fun i hi=>by
   rcases hpl with e | ⟨m,e,hm⟩
   ·omega
   ·obtain rfl:i=m:=by omega
    obtain⟨x,hx⟩:∃x,l[i]? = some x:=⟨_,zze (sB hm)⟩;exact⟨x,hx,gFa hkr wl hx (by rw[<-iF hx];exact hm)⟩
  obtain⟨kx,hkx,hka⟩:∃kx,kx<ks.length/\iQ ts l (gB l (n:Int))=ts.getD kx kE/\∀X,Below w.heap.size w X->Calls Tryz.prog 47 #[.pointer (some ⟨B,0,none⟩),.slice a len cap,.int .i64 (gB l (n:Int))] X fun e w' => e=.returned (.pointer (some ⟨g,kx * 10,none⟩))/\Below X.heap.size X w' := by
   rcases hpl with e | ⟨m,e,hm⟩
   ·rw[e]
    refine⟨0,h0,by unfold iQ;rw[if_pos rfl],fun X hX=>?_⟩;exact gGt X (h.below hX) h0 _
   ·obtain⟨x,hx,x1,x2⟩:=hty m e
    rw[e];refine⟨x.t.toNat,oo,?_,fun X hX=>gJe X (h.below hX) a len cap l (hl.below hX) h48 m x hx oo x2⟩;unfold iQ jP;rw[if_neg oo,Int.toNat_natCast,hx]
    rfl
  obtain⟨htr,hka⟩:=hka;obtain⟨y,hy⟩:∃y,ks[kx]? = some y:=⟨_,zze hkx⟩;obtain⟨hex,hnm,hck⟩:=h.trees kx y (ts.getD kx kE) hy (gLs (by have:=h.len;omega));rw[<-htr] at hex hnm hck;have HFR:Hid (0<=(n:Int)/\(n:Int)<=(len:Int)):=⟨oo,oo⟩;obtain⟨ps,hps⟩:∃ps,kids l (gB l (n:Int))=ps:=⟨_,rfl⟩;obtain⟨ah,hah⟩:∃ah,ps.countP (·<(n:Int))=ah:=⟨_,rfl⟩;(have hahl:ah<=ps.length:=by rw[<-hah];exact hCw _ _);(have hpr:ps.Pairwise (·<·):=by rw[<-hps];exact rB _ _);(have hpin:∀q∈ps,0<=q/\q<(len:Int):=fun q hq=>by have:=vL l _ q (by rw[hps];exact hq);omega);(have hpn:ps.length<=2048:=by have:=tB l (gB l (n:Int));rw[hps] at this;omega);(have hwp:lK l (n:Int) t=(iD l ps).take ah++t::(iD l ps).drop ah:=by unfold lK;rw[hps,hah]);have HAR:Hid (∀X,Below w.heap.size w X->Calls Tryz.prog 40 #[.slice a len cap,.int .i64 (n:Int)] X fun e w' => e=.returned (.int .i64 (gB l (n:Int)))/\Below X.heap.size X w'):=fun X hX=>zJ a len cap l n X (hl.below hX) oo hlie
  have HKI:Hid (∀X,Below w.heap.size w X->Calls Tryz.prog 42 #[.slice a len cap,.int .i64 (gB l (n:Int))] X fun e w' => ∃a6 c6,e=.returned (.slice a6 ps.length c6)/\kA w' a6 ps.length ps/\Below X.heap.size X w'):=fun X hX=>by
   have:=gDu a len cap l (gB l (n:Int)) X (hl.below hX) oo
   rw[hps] at this;refine this.mono ?_;rintro e w' ⟨a6,c6,h1,h2,h3⟩;exact⟨a6,c6,h1,gNk h2.1 oo,h3⟩
  have HBS:Hid (∀X a6 c6,kA X a6 ps.length ps->Calls Tryz.prog 43 #[.slice a6 ps.length c6,.int .i64 (n:Int)] X fun e w' => ∃r:Bool,e=.returned (.tuple #[.int .i64 (ah:Int),.bool r])/\Below X.heap.size X w'):=fun X a6 c6 hI=>by
   rcases hI.2.2 with h1 | ⟨b,o,rfl,_⟩
   ·have e:ps=[]:=List.length_eq_zero_iff.1 h1
    (have e2:ah=0:=by rw[<-hah,e];rfl);rw[h1,e2];exact gRg c6 a6 n X
   ·rw[<-hah]
    exact gKj b o ps.length c6 ps n X hI oo hpr
  have HWO:Hid (∀X ka kc,Below w.heap.size w X->kA X ka ps.length ps->Calls Tryz.prog 45 #[.slice a len cap,.slice ka ps.length kc] X fun e w' => ∃wa wc,e=.returned (.slice wa ps.length wc)/\w'.ownsRow X.heap.size 3 1 (.slice wa ps.length wc) ps.length (iG (iD l ps))/\Below X.heap.size X w'):=fun X ka kc hX hI=>gAj a len cap l ka ps.length kc ps X (hl.below hX) hI h48 oo (by intro q hq;have:=hpin q hq;omega)
  have HIN:Hid (∀(X Y:World) wa wc,Y.ownsRow X.heap.size 3 1 (.slice wa ps.length wc) ps.length (iG (iD l ps))->Below X.heap.size X Y->Calls Tryz.prog 44 #[.slice wa ps.length wc,.int .i64 (ah:Int),.slice (some ⟨Y.heap.size,0,none⟩) 1 1] (Y.alloc (.cells #[.int .i64 t] 3)) fun e w' => ∃a' c', e=.returned (.slice a' (ps.length+1) c')/\kA w' a' (ps.length+1) ((iD l ps).take ah++t::(iD l ps).drop ah)/\Below X.heap.size X w'):=fun X Y wa wc hO hB=>by
   have hBa:Below X.heap.size X (Y.alloc (.cells #[.int .i64 t] 3)):=hB.alloc hB.size _;refine(gLo X.heap.size wa ps.length wc (iD l ps) ah t Y.heap.size (Y.alloc (.cells #[.int .i64 t] 3)) (World.ownsRow.alloc hO _) hahl oo (World.alloc_heap_new Y _) (fun b hb e=>?_) hBa.size).mono ?_
   ·subst hb
    have:=(gC hO (g:=b.block) rfl).1
    omega
   ·rintro e w' ⟨a', c', h1,h2,h3⟩
    exact⟨a', c', h1,h2,hBa.trans h3⟩
  rw[hwp]
  have HAC0:Hid (∀X za zc,Below w.heap.size w X->kA X za (ps.length+1) ((iD l ps).take ah++t::(iD l ps).drop ah)->Calls Tryz.prog 46 #[.agg #[.int .i64 y.2.1,.string y.2.2.1,.slice y.2.2.2.1 y.2.2.2.2.1 y.2.2.2.2.2],.slice (some ⟨ng,0,none⟩) gs.length nc,.slice za (ps.length+1) zc] X fun e w' => ∃b,e=.returned (.bool b)/\(b=true↔iZ gs 200 (iQ ts l (gB l (n:Int))) ((iD l ps).take ah++t::(iD l ps).drop ah))/\Below X.heap.size X w'):=fun X za zc hX hI=>by
   refine(zM 200 (iQ ts l (gB l (n:Int))) _ (some ⟨ng,0,none⟩) gs.length nc gs za (ps.length+1) zc _ X (Ex.below hX _ _ _ hex) hnm (h.below hX).names hI).mono ?_;rintro e w' ⟨b,h1,h2,h3⟩;exact⟨b,h1,h2.trans ⟨fun q=>q.2,fun q=>⟨hck,q⟩⟩,h3⟩
  have HCE:Hid (∀X,Below w.heap.size w X->X.cell? ⟨g,kx * 10+7,none⟩=some (.int .i64 y.2.1)/\X.cell? ⟨g,kx * 10+7+1,none⟩=some (.string y.2.2.1)/\X.cell? ⟨g,kx * 10+7+2,none⟩=some (.slice y.2.2.2.1 y.2.2.2.2.1 y.2.2.2.2.2)/\X.cell? ⟨B,1,none⟩=some (.slice (some ⟨ng,0,none⟩) gs.length nc)):=fun X hX=>by
   obtain⟨_,h2,h3,h4⟩:=(h.below hX).kinds kx y hy;exact⟨h2,h3,h4,(h.cells X hX).2⟩
  have HKA0:=Hid.mk_ hka;(have HFIN:Hid (∀b:Bool,(b=true↔iZ gs 200 (iQ ts l (gB l (n:Int))) ((iD l ps).take ah++t::(iD l ps).drop ah))->(b=true↔(0<=(n:Int)/\(n:Int)<=(len:Int)/\(iR ks gs ts l).2=0/\iZ gs 200 (iQ ts l (gB l (n:Int))) ((iD l ps).take ah++t::(iD l ps).drop ah)))):=fun b hb=>hb.trans ⟨fun q=>⟨HFR.out.1,HFR.out.2,hz,q⟩,fun q=>q.2.2.2⟩);generalize iQ ts l (gB l (n:Int))=T at *;generalize gB l (n:Int)=ar at *;generalize (iD l ps).take ah++t::(iD l ps).drop ah=zs at *;generalize (iR ks gs ts l).2=q at *;obtain⟨kl,hkl⟩:∃kl,ps.length=kl:=⟨_,rfl⟩;rw[hkl] at HKI HBS HWO HIN HAC0 hpn;obtain⟨gl,hgl⟩:∃gl,gs.length=gl:=⟨_,rfl⟩;rw[hgl] at HAC0 HCE;obtain⟨sp,tk,tn,ta,tl,tc⟩:=y;dsimp only at *;clear h hl hlie hz ok wl hgo hkr hty hex hnm hck hka hps hah hahl hpr hpin hwp hkl hgl htr hy hpl hl48 h48 hll HFR hkx hsz;go_enter Tryz.func14,Tryz.ntmps14;(go_wp2_with fail);refine HV.mono ?_;rintro e X1 ⟨rfl,hB1⟩;have HA1:=HAR.out X1 hB1;have HB1:=Hid.mk_ hB1;clear hB1 HV HAR;(go_wp2_with fail);refine HA1.mono ?_;rintro e X2 ⟨rfl,hB2⟩;have HB2:=Hid.mk_ (HB1.out.trans (hB2.mono HB1.out.size));have HK2:=HKI.out X2 HB2.out;clear hB2 HA1 HKI;(go_wp2_with fail);refine HK2.mono ?_;rintro e X3 ⟨a6,c6,rfl,hI3,hB3⟩;have HB3:=Hid.mk_ (HB2.out.trans (hB3.mono HB2.out.size));have HI3:=Hid.mk_ hI3;have HS3:=HBS.out X3 a6 c6 hI3;clear hB3 hI3 HK2 HBS;(go_wp2_with fail);refine HS3.mono ?_;rintro e X4 ⟨rr,rfl,hB4⟩;have HB4:=Hid.mk_ (HB3.out.trans (hB4.mono HB3.out.size));have HW4:=HWO.out X4 a6 c6 HB4.out (HI3.out.below hB4);clear hB4 HS3 HWO;(go_wp2_with fail);refine HW4.mono ?_;rintro e X5 ⟨wa,wc,rfl,hO5,hB5⟩;have HI5:=HIN.out X4 X5 wa wc hO5 hB5;clear hO5 hB5 HW4 HIN;(go_wp2_with fail);refine HI5.mono ?_;rintro e X6 ⟨za,zc,rfl,hI6,hB6⟩;have HB6:=Hid.mk_ (HB4.out.trans (hB6.mono HB4.out.size));(have HAC:Hid (∀X,Below X6.heap.size X6 X->Calls Tryz.prog 46 #[.agg #[.int .i64 tk,.string tn,.slice ta tl tc],.slice (some ⟨ng,0,none⟩) gl nc,.slice za (kl+1) zc] X fun e w' => ∃b,e=.returned (.bool b)/\(b=true↔iZ gs 200 T zs)/\Below X.heap.size X w'):=fun X hX=>HAC0.out X za zc (HB6.out.trans (hX.mono HB6.out.size)) (hI6.below hX));(have HTC:Hid (∀X,Below X6.heap.size X6 X->X.cell? ⟨g,kx * 10+7,none⟩=some (.int .i64 tk)/\X.cell? ⟨g,kx * 10+7+1,none⟩=some (.string tn)/\X.cell? ⟨g,kx * 10+7+2,none⟩=some (.slice ta tl tc)/\X.cell? ⟨B,1,none⟩=some (.slice (some ⟨ng,0,none⟩) gl nc)):=fun X hX=>HCE.out X (HB6.out.trans (hX.mono HB6.out.size)));(have HKA:Hid (∀X,Below X6.heap.size X6 X->Calls Tryz.prog 47 #[.pointer (some ⟨B,0,none⟩),.slice a len cap,.int .i64 ar] X fun e w' => e=.returned (.pointer (some ⟨g,kx * 10,none⟩))/\Below X.heap.size X w'):=fun X hX=>HKA0.out X (HB6.out.trans (hX.mono HB6.out.size)));clear hI6 hB6 HI5 HAC0 HCE HKA0 HI3 HB1 HB2 HB3 HB4;(go_wp2_with fail);refine wp_region_held_drew (S:=fun X=>Below X6.heap.size X6 X) hmx (zzd _ _).drew (fun hS=>?_);refine gA 0 (some 47) hS ?_;refine gA 1 (some 48) hS ?_;refine gA 2 (some 49) hS ?_;refine gA 7 (some 54) hS ?_;refine gA 8 (some 55) hS ?_;refine gA 9 (some 56) hS ?_;refine gA 10 (some 57) hS ?_ (hy:=by intro w hSw;obtain⟨q0,q1,q2,q3⟩:=HTC.out _ hSw;go_simp;with_reducible rfl);refine gA 11 (some 58) hS ?_;refine gT 3 kr rfl (fun K hK=>?_);rw[if_pos (by rfl)];go_simp;refine(HKA.out _ hS).mono ?_;rintro e Y1 ⟨rfl,b1⟩;have hS1:=hS.trans (b1.mono hS.size);clear b1;refine hK.out _ _ hS1 (fun _=>?_);clear hK K
  try simp only[gQ]
  refine gA 4 (some 51) hS1 ?_;refine gA 5 (some 52) hS1 ?_;refine gA 6 (some 53) hS1 ?_ (hy:=by intro w hSw;obtain⟨q0,q1,q2,q3⟩:=HTC.out _ hSw;go_simp;with_reducible rfl);refine gT 12 kr rfl (fun K hK=>?_);rw[if_pos (by rfl)];go_simp;refine(HAC.out _ hS1).mono ?_;rintro e Y2 ⟨b,rfl,hb,b2⟩;have hS2:=hS1.trans (b2.mono hS1.size);clear b2;refine hK.out _ _ hS2 (fun _=>?_);clear hK K
  try simp only[gQ]
  refine gA 13 (some 8) hS2 ?_;refine wpAnyH_done kr ?_ _;have HBB:=Hid.mk_ hb;have HEE:=Hid.mk_ (HB6.out.trans (hS2.mono HB6.out.size));clear hb;clear HTC HKA HAC;go_wp2;go_ret;exact⟨b,rfl,HFIN.out b HBB.out,HEE.out⟩
 ·have hqz:((iR ks gs ts l).2==0)=false:=by rw[beq_eq_false_iff_ne];exact hz
  rw[hqz] at HV;(have HN:Hid (¬(0<=p/\p<=(len:Int)/\(iR ks gs ts l).2=0/\iZ gs 200 (iQ ts l (gB l p)) (lK l p t))):=fun h=>hz h.2.2.1);generalize (0<=p/\p<=(len:Int)/\(iR ks gs ts l).2=0/\iZ gs 200 (iQ ts l (gB l p)) (lK l p t))=PP at *;clear h hl hz hqz;go_enter Tryz.func14,Tryz.ntmps14;(go_wp2_with fail);refine HV.mono ?_;rintro e X1 ⟨rfl,hB1⟩;have HB1:=Hid.mk_ hB1;clear hB1 HV;exact k121
theorem hDs (w:World)(b:Nat)(h:w.heap[b]? = some (.cells #[.int .i64 1,.int .i64 1,.int .i64 0,.int .i64 0,.int .i64 2,.int .i64 0,.int .i64 0,.int .i64 0] 58 (0,0))):mC w (some ⟨b,0,none⟩) 2 [pB,nG]:=by
 have hc:=fun j=>cell_of_row w b j _ _ _ h
 refine⟨rfl,.inr ⟨b,0,rfl,(zza.1 h).1,fun i x hx=>?_⟩⟩
 match i,hx with
 | 0,hx=>cases hx;exact⟨hc 0,hc 1,hc 2,hc 3⟩
 | 1,hx=>cases hx;exact⟨hc 4,hc 5,hc 6,hc 7⟩
 | n+2,hx=>simp at hx
end Go.Proofs.YtjkebndkeamijaaGreatDoor
namespace Go.Proofs.YtjkebndkeamijaaGreatDoor
open Go.RowKit
open Classical in
noncomputable def qG (ks:List gN)(gs:List Grp)(ts:List (DataW Unit))(l:List Tok)(p:Int):Bool:=decide (0<=p/\p<=(l.length:Int)/\(iR ks gs ts l).2=0/\iZ gs 200 (iQ ts l (gB l p)) (lK l p 0))
open Classical in
theorem qU {ks:List gN}{gs:List Grp}{ts:List (DataW Unit)}{l:List Tok}{p:Int}:qG ks gs ts l p=true↔(0<=p/\p<=(l.length:Int)/\(iR ks gs ts l).2=0/\iZ gs 200 (iQ ts l (gB l p)) (lK l p 0)):=by
 unfold qG
 exact decide_eq_true_iff
theorem gUq {B g c ng nc:Nat}{ks:List gN}{gs:List Grp}{ts:List (DataW Unit)}{w:World}(h:qP w B g c ng nc ks gs ts)(h0:0<ks.length){a:Option Addr}{len cap:Nat}{l:List Tok}(hl:mC w a len l)(hlie:gBw a len cap)(hsz:len<=4398046511104) :
  yF w B a len cap (iR ks gs ts l).1 (iR ks gs ts l).2/\gQp w B a len cap (qG ks gs ts l):=by
 refine⟨fun X hX=>gFq X (h.below hX) h0 a len cap l (hl.below hX) hlie hsz,fun X hX p=>?_⟩
 refine(gRc X (h.below hX) h0 a len cap l (hl.below hX) hlie hsz p 0).mono ?_
 rintro e X' ⟨r,rfl,hr,hB⟩
 refine⟨?_,hB⟩
 have:r=qG ks gs ts l p:=by
  rw[Bool.eq_iff_iff,hr,qU,hl.1]
 rw[this]
theorem gVn {ks:List gN}(h8:ks.length=8)(hs:∀i,kR ks i=((jC::jB)[i]?).getD jC):qG ks gsH (gS kK jB) [pB,nG] 0=false/\qG ks gsH (gS kK jB) [pB,nG] 1=true:=by
 have hc:=gHd h8 hs
 constructor
 ·rw[Bool.eq_false_iff]
  intro h;obtain⟨_,_,_,h4⟩:=qU.1 h;(have e:gB [pB,nG] 0 = -1:=by decide);rw[e] at h4;unfold iQ at h4;rw[if_pos rfl] at h4
  have:=((gCz _).1 h4).2 0 (by unfold lK;exact List.mem_append_right _ (zzg ..))
  revert this;decide
 ·refine qU.2 ⟨oo,by decide,by rw[hc],?_⟩
  (have e:gB [pB,nG] 1=0:=by decide);(have e2:kids [pB,nG] 0=[]:=by decide);unfold lK iQ;rw[e,if_neg oo,e2];refine(gEx _).2 ?_;intro a ha;simp[iD] at ha;subst ha
  decide
theorem gMf (w:World)(hE:ETy w):Calls Tryz.prog 23 #[] w fun e w' => e=.returned (.bool true)/\Below w.heap.size w w' := by
 have HH:=jG (gDr w hE)
 have HN:Hid (∀(X:World) (B:Nat),vV X B kK jB lI->Calls Tryz.prog 26 #[.pointer (some ⟨B,0,none⟩),.slice (some ⟨X.heap.size,0,none⟩) 2 2,.int .i64 0,.int .i64 1] (X.alloc (.cells #[.int .i64 1,.int .i64 1,.int .i64 0,.int .i64 0,.int .i64 2,.int .i64 0,.int .i64 0,.int .i64 0] 58)) fun e w' => e=.returned (.tuple #[.int .i64 1,.int .i64 0])/\Below X.heap.size X w'):=fun X B hm=>by
  have hBX:Below X.heap.size X (X.alloc (.cells #[.int .i64 1,.int .i64 1,.int .i64 0,.int .i64 0,.int .i64 2,.int .i64 0,.int .i64 0,.int .i64 0] 58)):=(zzd _ X).alloc (zzb _) _;obtain⟨g,c,ng,nc,ks,h1,h8,hs⟩:=gPe (hm.below hBX);obtain⟨c1,c2⟩:=gUq h1 oo (hDs _ _ (World.alloc_heap_new X _)) (show gBw (some ⟨X.heap.size,0,none⟩) 2 2 by unfold gBw;simp) oo;have hc:=gHd h8 hs;obtain⟨t0,t1⟩:=gVn h8 hs;refine(gGm c1 c2 oo (fun _=>by omega) 0 1).mono ?_;rintro e w' ⟨rfl,hB⟩
  have hr:zA (qG ks gsH (gS kK jB) [pB,nG]) (iR ks gsH (gS kK jB) [pB,nG]).2 2 0 1=(1,0):=by
   rw[hc];(have e1:qC 0 2 0=0:=by decide);(have e2:nC 2 0 (tM 1) 2=[0,1,2]:=by decide);unfold zA rT;simp only;rw[if_pos e1,e2,List.find?_cons_of_neg (by rw[t0];decide),List.find?_cons_of_pos t1]
  rw[hr];exact⟨rfl,hBX.trans (hB.mono hBX.size)⟩
 clear hE
 go_enter Tryz.func23,Tryz.ntmps23
 go_wp2_with fail
 refine HH.out.mono ?_
 rintro e X1 ⟨B1,rfl,hm1,hB1⟩
 have HX:=jG (HN.out X1 B1 hm1)
 have HB1:=jG hB1
 clear hm1 hB1 HN
 go_wp2_with fail
 refine HX.out.mono ?_
 rintro e X2 ⟨rfl,hB2⟩
 have HB2:=jG (HB1.out.trans (hB2.mono HB1.out.size))
 clear hB2 HX HB1 HH
 go_wp2
 go_ret
 exact⟨rfl,HB2.out⟩
end Go.Proofs.YtjkebndkeamijaaGreatDoor
namespace Go.Proofs.YtjkebndkeamijaaGreatDoor
open Go.RowKit
theorem hAo {W:List Int}{c:Nat}{t:Int}(h:W[c]? = some t):W.take (c+1)++t::W.drop (c+1)=W.take c++t::W.drop c:=by
 obtain⟨hc,e⟩:=zzc.1 h
 rw[List.drop_eq_getElem_cons hc,e,List.take_succ_eq_append_getElem hc,e,List.append_assoc,List.singleton_append]
theorem hCx {ps:List Int}{n:Int}(h:ps.Pairwise (·<·))(hm:n∈ps):ps[ps.countP (·<n)]? = some n/\ps.countP (·<n+1)=ps.countP (·<n)+1:=by
 induction ps with
 | nil=>cases hm
 | cons x r ih=>
  obtain⟨h1,h2⟩:=List.pairwise_cons.1 h
  by_cases hx:x=n
  ·subst hx
   have e0:∀m:Int,m<=x+1->r.countP (·<m)=0:=fun m hm' => by
    rw[List.countP_eq_zero];intro p hp
    have:=h1 p hp
    simp;omega
   rw[List.countP_cons_of_neg (by simp),List.countP_cons_of_pos (by simp;omega),e0 x oo,e0 (x+1) oo];exact⟨rfl,rfl⟩
  ·have hr:n∈r:=by
    rcases List.mem_cons.1 hm with e | e
    ·exact absurd e.symm hx
    ·exact e
   have hlt:=h1 n hr;obtain⟨i1,i2⟩:=ih h2 hr;rw[List.countP_cons_of_pos (by simpa using hlt),List.countP_cons_of_pos (by simp;omega),i2];exact⟨by rw[List.getElem?_cons_succ];exact i1,rfl⟩
theorem gQz {ks:List gN}{gs:List Grp}{ts:List (DataW Unit)}{l:List Tok}(h:(iR ks gs ts l).2=0){n:Nat}{x:Tok}(hx:l[n]? = some x)(h0:x.k=0):qG ks gs ts l ((n:Int)+1)=qG ks gs ts l (n:Int):=by
 obtain⟨ok,wl⟩:=gAc.1 h
 obtain⟨h48,hg⟩:=(rL l).1 ok
 have hn:=(zzc.1 hx).1
 have hki:kindAt l n=0:=(iF hx).trans h0
 have hr:=zX l 0 0 hg x (zzj hx)
 have ht:x.t=0:=by
  unfold qV at hr;rw[if_pos h0] at hr;simp only[Bool.and_eq_true,beq_iff_eq] at hr;exact hr.1.1
 have ha:gB l ((n:Int)+1)=gB l (n:Int):=by
  unfold gB
  have:=lX l n x hx
  rw[show ((n+1:Nat):Int)=(n:Int)+1 from by omega] at this;rw[this];unfold lA;rw[if_neg oo,if_neg oo]
 have hm:=wR l n hn ⟨oo,oo,oo⟩
 obtain⟨c1,c2⟩:=hCx (rB l (gB l (n:Int))) hm
 have hw:lK l ((n:Int)+1) 0=lK l (n:Int) 0:=by
  unfold lK;rw[ha,c2];refine hAo ?_;unfold iD;rw[List.getElem?_map,c1,Option.map_some];unfold jP;rw[Int.toNat_natCast,hx,Option.map_some,Option.getD_some,ht]
 rw[Bool.eq_iff_iff,qU,qU,ha,hw]
 exact⟨fun q=>⟨oo,oo,q.2.2⟩,fun q=>⟨oo,oo,q.2.2⟩⟩
end Go.Proofs.YtjkebndkeamijaaGreatDoor
