/-
  PROVED HERE: laying a tree, and the net that is made.
-/
import Derived.Test.YtjkebndkeamijaaGreatDoorCADANetsB
set_option maxRecDepth 100000
set_option maxHeartbeats 2000000
namespace Go.Proofs.YtjkebndkeamijaaGreatDoor
open Go.RowKit
theorem qD.typ {w0 w:World}{Bn g n c:Nat}{tv nv:Value}{ts bs:List Value}{tos:List (List Nat)}{bys:List (List Int)}{nxs:List Int}(h:qD w0 w Bn tv (.slice (some ⟨g,0,none⟩) n c) nv ts bs tos bys nxs)(i:Nat)(a:Option Addr)(l cc:Nat)(zs:List Int)(hZ:kA w0 a l zs) :
  qD w0 (w.setCell ⟨g,i,none⟩ (.slice a l cc)) Bn tv (.slice (some ⟨g,0,none⟩) n c) nv ts (bs.set i (.slice a l cc)) tos (bys.set i zs) nxs:=by
 have hn:n=bys.length:=by
  obtain⟨a', c', e⟩:=pI h.brow;injection e
 obtain⟨hglt,cur,hcur⟩:=gC h.brow (g:=g) rfl
 have same:∀k,k≠g->(w.setCell ⟨g,i,none⟩ (.slice a l cc)).heap[k]? = w.heap[k]? := fun k h1=>zzh w _ _ k h1
 subst hn
 refine⟨(same Bn (Ne.symm (kN hcur h.blk (by decide)))).trans h.blk,h.bge,gF h.trow fun k e=>same k (fun e' => by subst e';exact h.two k e rfl),?_,gF h.nrow fun k e=>?_,fun j m hm=>?_,h.inj,h.apart,h.two,fun j m hm=>?_,h.bel.setCell (iV h.brow (g:=g) rfl) _⟩
 ·have:=sH h.brow i (.slice a l cc)
  rwa [List.length_set]
 ·obtain⟨_,c', hc'⟩:=gC h.nrow e
  exact same k (kN hc' hcur (by decide))
 ·obtain⟨v,h1,h2⟩:=h.each j m hm
  refine⟨v,h1,gF h2 fun k e=>?_⟩;obtain⟨_,c', hc'⟩:=gC h2 e;exact same k (kN hc' hcur (by decide))
 ·rcases wF hm with ⟨rfl,rfl,hlt⟩ | ⟨hne,hm⟩
  ·exact⟨a,l,cc,by rw[List.getElem?_set_self (by rw[h.blen];exact hlt)],hZ⟩
  ·obtain⟨a', n', c', h1,h2⟩:=h.byr j m hm
   exact⟨a', n', c', by rw[List.getElem?_set_ne (Ne.symm hne)];exact h1,h2⟩
theorem qD.num {w0 w:World}{Bn g n c:Nat}{tv bv:Value}{ts bs:List Value}{tos:List (List Nat)}{bys:List (List Int)}{nxs:List Int}(h:qD w0 w Bn tv bv (.slice (some ⟨g,0,none⟩) n c) ts bs tos bys nxs)(i:Nat)(x:Int) :
  qD w0 (w.setCell ⟨g,i,none⟩ (.int .i64 x)) Bn tv bv (.slice (some ⟨g,0,none⟩) n c) ts bs tos bys (nxs.set i x):=by
 have hn:n=nxs.length:=by
  obtain⟨a', c', e⟩:=pI h.nrow;injection e
 obtain⟨hglt,cur,hcur⟩:=gC h.nrow (g:=g) rfl
 have same:∀k,k≠g->(w.setCell ⟨g,i,none⟩ (.int .i64 x)).heap[k]? = w.heap[k]? := fun k h1=>zzh w _ _ k h1
 subst hn
 refine⟨(same Bn (Ne.symm (kN hcur h.blk (by decide)))).trans h.blk,h.bge,gF h.trow fun k e=>?_,gF h.brow fun k e=>?_,?_,fun j m hm=>?_,h.inj,h.apart,h.two,h.byr,h.bel.setCell (iV h.nrow (g:=g) rfl) _⟩
 ·obtain⟨_,c', hc'⟩:=gC h.trow e
  exact same k (kN hc' hcur (by decide))
 ·obtain⟨_,c', hc'⟩:=gC h.brow e
  exact same k (kN hc' hcur (by decide))
 ·have:=sH h.nrow i (.int .i64 x)
  rw[List.length_set];(have e:iG (nxs.set i x)=(iG nxs).set i (.int .i64 x):=by unfold iG;rw[List.map_set]);rwa [e]
 ·obtain⟨v,h1,h2⟩:=h.each j m hm
  exact⟨v,h1,gF h2 fun k e=>same k (fun e' => by subst e';exact h.apart j v k h1 e rfl)⟩
theorem gW.drew {w0 w:World}{Bn:Nat}{N:List gL}(h:gW w0 w Bn N):gW w0 w.drew Bn N:=h.keep (zzd _ w).drew
theorem gM.drew {w w' : World}(h:gM w w'):gM w w'.drew:=h.trans (gM.of_below (zzd _ w').drew)
def tyS (gs:List Grp)(t:DataW Unit):List Int:=tyG gs (nV t)
def nD (gs:List Grp):Nat->DataW Unit->Nat->Nat->List gL->List gL:=sA iE (tyS gs) subs
theorem gXr (gs:List Grp)(n:Nat)(k:Int)(s:ByteArray)(ts:List (DataW Unit))(a b:Nat)(N:List gL):nD gs (n+1) (node k s ts) a b N =
  if k=0 then iT N a b
  else if k=1 then pC (iT (gI N) a N.length) N.length (tyG gs s) b
  else if k=2 then yU (nD gs n) ts a b N
  else if k=3 then uE (nD gs n) ts a b N
  else sU (nD gs n) k ts a b N:=by
 unfold nD
 rw[sA,iN,iC]
 unfold tyS
 rw[kT]
def SK (gs:List Grp)(n:Nat)(t:DataW Unit):Prop:=qS gs n t/\gCy iE subs n t
def gQn (w0:World)(gs:List Grp)(ga:Option Addr)(gl gc Bn n:Nat):Prop:=∀(t:DataW Unit) (v:Value) (w:World) (a b:Nat) (N:List gL) (m:Nat),Ex w0 n t v->SK gs n t->gW w0 w Bn N->a<N.length->b<N.length->N.length+4 * size subs n t<=50000->lW m N->m+4 * size subs n t<=50000 →
 Calls Tryz.prog 112 #[.pointer (some ⟨Bn,0,none⟩),v,.slice ga gl gc,.int .i64 (a:Int),.int .i64 (b:Int)] w fun e w' => e=.returned (.tuple #[])/\gW w0 w' Bn (nD gs n t a b N)/\gM w w'
theorem lW.more {m m' : Nat}{N:List gL}(h:lW m N)(hm:m<=m'):lW m' N:=fun p x hx=>Nat.le_trans (h p x hx) hm
theorem tH {w X:World}{k:Int}{s:ByteArray}{ka:Option Addr}{kl kc:Nat}(hX:gM (w.alloc (.cells #[.int .i64 k,.string s,.slice ka kl kc] 69)) X):X.cell? ⟨w.heap.size,0,none⟩=some (.int .i64 k)/\X.cell? ⟨w.heap.size,1,none⟩=some (.string s)/\X.cell? ⟨w.heap.size,2,none⟩=some (.slice ka kl kc)/\X.heap[w.heap.size]? = some (.cells #[.int .i64 k,.string s,.slice ka kl kc] 69 (0,0)):=by
 have h0:=World.alloc_heap_new w (.cells #[.int .i64 k,.string s,.slice ka kl kc] 69)
 obtain⟨a0,a1,a2,_⟩:=vO ((hX.same _ _ _ _ h0 (by decide) (by decide) (by decide)).trans h0)
 exact⟨a0,a1,a2,(hX.same _ _ _ _ h0 (by decide) (by decide) (by decide)).trans h0⟩
theorem gXn (w0 w:World)(Bn:Nat)(N:List gL)(s:ByteArray)(ka:Option Addr)(kl kc:Nat)(ga:Option Addr)(gl gc a b:Nat)(h:gW w0 w Bn N)(ha:a<N.length)(hl:N.length<=50000)(hf:lW 50000 N) :
  Calls Tryz.prog 112 #[.pointer (some ⟨Bn,0,none⟩),.agg #[.int .i64 0,.string s,.slice ka kl kc],.slice ga gl gc,.int .i64 (a:Int),.int .i64 (b:Int)] w fun e w' => e=.returned (.tuple #[])/\gW w0 w' Bn (iT N a b)/\gM w w' := by
 have hB1:Below w.heap.size w (w.alloc (.cells #[.int .i64 0,.string s,.slice ka kl kc] 69)):=(zzd _ w).alloc (zzb _) _
 have HF:Hid (Calls Tryz.prog 140 #[.pointer (some ⟨Bn,0,none⟩),.int .i64 (a:Int),.int .i64 (b:Int)] (w.alloc (.cells #[.int .i64 0,.string s,.slice ka kl kc] 69)) fun e w' => e=.returned (.tuple #[])/\gW w0 w' Bn (iT N a b)/\gM w w'):=by
  refine(oK w0 _ Bn N a b (h.keep hB1) ha oo (hf.more oo)).mono ?_;rintro e w' ⟨h1,h2,h3⟩;exact⟨h1,h2,(gM.of_below hB1).trans h3⟩
 clear h ha hl hf hB1
 go_enter Tryz.func112,Tryz.ntmps112
 go_wp2_with fail
 refine HF.out.mono ?_
 rintro e W ⟨rfl,hN,hK⟩
 have HE:Hid (gW w0 W Bn (iT N a b)/\gM w W):=⟨hN,hK⟩
 clear hN hK
 go_wp2
 go_end0
 exact⟨rfl,HE.out⟩
theorem gXo (w0 w:World)(Bn:Nat)(N:List gL)(s:ByteArray)(ka:Option Addr)(kl kc:Nat)(ga:Option Addr)(gl gc:Nat)(gs:List Grp)(a b:Nat)(hG:iS w0 ga gl gs)(h:gW w0 w Bn N)(ha:a<N.length)(hl:N.length<=50000)(hf:lW 50000 N) :
  Calls Tryz.prog 112 #[.pointer (some ⟨Bn,0,none⟩),.agg #[.int .i64 1,.string s,.slice ka kl kc],.slice ga gl gc,.int .i64 (a:Int),.int .i64 (b:Int)] w fun e w' => e=.returned (.tuple #[])/\gW w0 w' Bn (pC (iT (gI N) a N.length) N.length (tyG gs s) b)/\gM w w' := by
 obtain⟨w1,hw1⟩:∃w1,w1=w.alloc (.cells #[.int .i64 1,.string s,.slice ka kl kc] 69):=⟨_,rfl⟩
 have hB1:Below w.heap.size w w1:=by rw[hw1];exact(zzd _ w).alloc (zzb _) _
 have HX:Hid (∀X,gM w1 X->X.cell? ⟨w.heap.size,0,none⟩=some (.int .i64 1)/\X.cell? ⟨w.heap.size,1,none⟩=some (.string s)/\X.cell? ⟨w.heap.size,2,none⟩=some (.slice ka kl kc)/\X.heap[w.heap.size]? = some (.cells #[.int .i64 1,.string s,.slice ka kl kc] 69 (0,0))):=fun X hX=>by rw[hw1] at hX;exact tH hX
 have hpl:=gR N
 have HP:Hid (Calls Tryz.prog 111 #[.pointer (some ⟨Bn,0,none⟩)] w1 fun e w' => e=.returned (.int .i64 (N.length:Int))/\gW w0 w' Bn (gI N)/\gM w1 w'):=lN w0 w1 Bn N (h.keep hB1) oo
 have hfew:lW 50000 (gI N):=by simpa using (kW N).few 50000 hf
 have HF:Hid (∀X,gW w0 X Bn (gI N)->Calls Tryz.prog 140 #[.pointer (some ⟨Bn,0,none⟩),.int .i64 (a:Int),.int .i64 (N.length:Int)] X fun e w' => e=.returned (.tuple #[])/\gW w0 w' Bn (iT (gI N) a N.length)/\gM X w'):=fun X hX=>oK w0 X Bn (gI N) a N.length hX oo oo (hfew.more oo)
 have HT:Hid (∀X,Below w0.heap.size w0 X->Calls Tryz.prog 139 #[.slice ga gl gc,.string s] X fun e w' => ∃a' n c,e=.returned (.slice a' n c)/\kA w0 a' n (tyG gs s)/\w' = X):=fun X hX=>gDb s ga gl gc gs w0 X hG hX
 have HW1:Hid (w.alloc (.cells #[.int .i64 1,.string s,.slice ka kl kc] 69)=w1):=hw1.symm
 have HKW:Hid (∀X,gM w1 X->gM w X):=fun X hX=>(gM.of_below hB1).trans hX
 have hl2:(iT (gI N) a N.length).length=N.length+1:=by rw[iH,gR]
 obtain⟨N2,hN2⟩:∃N2,N2=iT (gI N) a N.length:=⟨_,rfl⟩
 rw[<-hN2] at HF hl2 ⊢
 have hli:(N.length:Int)<=50000:=by omega
 clear h ha hf hfew hB1 hw1 hG hpl hN2 hl
 go_enter Tryz.func112,Tryz.ntmps112
 go_wp2_with fail
 rw[HW1.out]
 refine HP.out.mono ?_
 rintro e W2 ⟨rfl,hN2,hK2⟩
 obtain⟨q0,q1,q2,_⟩:=HX.out W2 hK2
 clear HP HW1
 have HF2:=HF.out W2 hN2
 clear HF
 go_wp2_with fail
 refine HF2.mono ?_
 rintro e W3 ⟨rfl,hN3,hK3⟩
 have hK13:=hK2.trans hK3
 obtain⟨p0,p1,p2,p3⟩:=HX.out W3 hK13
 have hbel3:=hN3.bel
 obtain⟨tv,bv,nv,ts,bs,h3⟩:=hN3
 obtain⟨gb,cb,hbv,hcb⟩:=gY h3.brow (by rw[List.length_map];omega)
 rw[List.length_map,hl2] at hbv
 subst hbv
 obtain⟨c0,c1,c2,_⟩:=tE h3.blk
 obtain⟨hgb,curb,hcurb⟩:=gC h3.brow (g:=gb) rfl
 have hgbB:gb≠Bn:=kN hcurb h3.blk (by decide)
 have hBx:w.heap.size≠gb:=kN p3 hcurb (by decide)
 have hBxB:w.heap.size≠Bn:=kN p3 h3.blk (by decide)
 have cbN:∃u,W3.cell? ⟨gb,N.length,none⟩=some u:=by
  obtain⟨u,hu⟩:∃u,bs[N.length]? = some u:=⟨_,zze (by rw[h3.blen,List.length_map];omega)⟩;exact⟨u,hcb _ _ hu⟩
 obtain⟨u,cbN⟩:=cbN
 have fbN:W3.frozen? ⟨gb,N.length,none⟩=false:=by simp[World.frozen?,hcurb]
 have HSet:Hid (∀(a' : Option Addr) (n' c' : Nat),kA w0 a' n' (tyG gs s)->∃gn cn u2,(W3.setCell ⟨gb,N.length,none⟩ (.slice a' n' c')).cell? ⟨Bn,2,none⟩=some (.slice (some ⟨gn,0,none⟩) (N.length+1) cn)/\(W3.setCell ⟨gb,N.length,none⟩ (.slice a' n' c')).cell? ⟨gn,N.length,none⟩=some u2/\(W3.setCell ⟨gb,N.length,none⟩ (.slice a' n' c')).frozen? ⟨gn,N.length,none⟩=false/\gW w0 ((W3.setCell ⟨gb,N.length,none⟩ (.slice a' n' c')).setCell ⟨gn,N.length,none⟩ (.int .i64 (b:Int))) Bn (pC N2 N.length (tyG gs s) b)/\gM w ((W3.setCell ⟨gb,N.length,none⟩ (.slice a' n' c')).setCell ⟨gn,N.length,none⟩ (.int .i64 (b:Int)))):=by
  intro a' n' c' hI;have h4:=h3.typ N.length a' n' c' _ hI;obtain⟨gn,cn,hnv,hcn⟩:=gY h4.nrow (by rw[List.length_map];omega);rw[List.length_map,hl2] at hnv;subst hnv;obtain⟨_,_,d2,_⟩:=tE h4.blk;obtain⟨u2,hu2⟩:∃u2,(iG (N2.map (·.2.2)))[N.length]? = some u2:=⟨_,zze (by unfold iG;rw[List.length_map,List.length_map];omega)⟩;obtain⟨hgn,curn,hcurn⟩:=gC h4.nrow (g:=gn) rfl;have h5:=h4.num N.length (b:Int);obtain⟨x,hx⟩:∃x,N2[N.length]? = some x:=⟨_,zze oo⟩;refine⟨gn,cn,u2,d2,hcn _ _ hu2,by simp[World.frozen?,hcurn],⟨tv,.slice (some ⟨gb,0,none⟩) (N.length+1) cb,.slice (some ⟨gn,0,none⟩) (N.length+1) cn,ts,bs.set N.length (.slice a' n' c'),?_⟩,((HKW.out _ hK13).trans (gM.set hcurb (.inr (.inl rfl)))).trans (gM.set hcurn (.inr (.inr rfl)))⟩
  have e1:(pC N2 N.length (tyG gs s) b).map (·.1)=N2.map (·.1):=by
   unfold pC;rw[vK hx,List.map_set];exact gFm (by rw[List.getElem?_map,hx];rfl)
  have e2:(pC N2 N.length (tyG gs s) b).map (·.2.1)=(N2.map (·.2.1)).set N.length (tyG gs s):=by
   unfold pC;rw[vK hx,List.map_set]
  have e3:(pC N2 N.length (tyG gs s) b).map (·.2.2)=(N2.map (·.2.2)).set N.length (b:Int):=by
   unfold pC;rw[vK hx,List.map_set]
  rw[e1,e2,e3];exact h5
 have HTD:Hid (Calls Tryz.prog 139 #[.slice ga gl gc,.string s] W3.drew fun e w' => ∃a' n c,e=.returned (.slice a' n c)/\kA w0 a' n (tyG gs s)/\w' = W3.drew):=HT.out W3.drew hbel3.drew
 have hNi:(N.length:Int)<(N.length:Int)+1:=by omega
 have hN0:(0:Int)<=(N.length:Int):=by omega
 have HSG:Hid (∀v,(W3.setCell ⟨gb,N.length,none⟩ v).cell? ⟨Bn,1,none⟩=some (.slice (some ⟨gb,0,none⟩) (N.length+1) cb)/\(W3.setCell ⟨gb,N.length,none⟩ v).cell? ⟨w.heap.size,1,none⟩=some (.string s)):=fun v=>
  ⟨(zzi (w:=W3) (a:=⟨Bn,1,none⟩) (zzh W3 _ v Bn (Ne.symm hgbB))).trans c1,(zzi (w:=W3) (a:=⟨w.heap.size,1,none⟩) (zzh W3 _ v w.heap.size hBx)).trans p1⟩
 clear HF2 hN2 hK2 hK3 q0 q1 q2 h3 hcb hcurb hgb HX HKW hK13 hbel3 HT hgbB hBx hBxB
 go_wp2_with fail
 refine wp_region_held_drew (S:=fun X=>X.cell? ⟨Bn,1,none⟩=some (.slice (some ⟨gb,0,none⟩) (N.length+1) cb)/\X.cell? ⟨w.heap.size,1,none⟩=some (.string s)) hmx ⟨c1,p1⟩ (fun hS=>?_)
 refine gA 0 (some 67) hS ?_
 refine gA 1 (some 68) hS ?_
 refine gA 2 (some 69) hS ?_
 refine gA 3 (some 70) hS ?_ (hy:=by intro w hSw;obtain⟨s1,s2⟩:=hSw;go_simp;with_reducible rfl)
 refine gA 4 (some 71) hS ?_
 refine gA 5 (some 72) hS ?_
 refine gA 6 (some 73) hS ?_
 refine gA 7 (some 74) hS ?_ (hy:=by intro w hSw;obtain⟨s1,s2⟩:=hSw;go_simp;with_reducible rfl)
 refine gT 8 kr rfl (fun K hK=>?_)
 rw[if_pos (by rfl)]
 go_simp
 refine HTD.out.mono ?_
 rintro e WX ⟨a', n', c', rfl,hI,rfl⟩
 refine hK.out _ _ hS (fun _=>?_)
 clear hK K
 try simp only[gQ]
 obtain⟨gn,cn,u2,x1,x2,x3,x4,x5⟩:=HSet.out a' n' c' hI
 have HFIN:Hid (gW w0 ((W3.setCell ⟨gb,N.length,none⟩ (.slice a' n' c')).setCell ⟨gn,N.length,none⟩ (.int .i64 (b:Int))) Bn (pC N2 N.length (tyG gs s) b)/\gM w ((W3.setCell ⟨gb,N.length,none⟩ (.slice a' n' c')).setCell ⟨gn,N.length,none⟩ (.int .i64 (b:Int)))):=⟨x4,x5⟩
 clear x4 x5 hI HSet
 refine gA 9 (some 76) hS ?_
 refine gT 10 kr rfl (fun K hK=>?_)
 rw[if_pos (by rfl)]
 go_simp
 refine hK.out _ _ (HSG.out _) (fun _=>?_)
 clear hK K
 try simp only[gQ]
 refine wpAnyH_done kr ?_ _
 go_wp2
 go_end0
 refine⟨rfl,gW.drew HFIN.out.1,HFIN.out.2.drew⟩
end Go.Proofs.YtjkebndkeamijaaGreatDoor
/- NetLay1: the document's lay at rows of parts and at choices. -/
namespace Go.Proofs.YtjkebndkeamijaaGreatDoor
open Go.RowKit
theorem gZs {T:Type}{K:T->Int}{M:T->Nat}{U:T->List T}:∀(n:Nat) (t:T),gCx K M U n t->gCx K (fun _=>1) U n t:=by
 intro n
 induction n with
 | zero=>intro t h;exact h
 | succ n ih=>
  rintro t ⟨s1,s3,s4,sk⟩;exact⟨fun _=>Nat.one_ne_zero,s3,s4,fun x hx=>ih x (sk x hx)⟩
theorem sL {gs:List Grp}{n:Nat}{t:DataW Unit}(h:qS gs n t){a b:Nat}{N:List gL}(ha:a<N.length)(hb:b<N.length):tQ N (nD gs n t a b N) (4 * size subs n t - 2) (4 * size subs n t) :=
 hDk iE (tyS gs) subs n t a b N (fun _=>trivial) (gZs n t h) ha hb
theorem wG {gs:List Grp}{n:Nat}{t:DataW Unit}(h:qS gs n t):1<=size subs n t:=by
 cases n with
 | zero=>exact h.elim
 | succ n=>exact gNe subs n t
def uF (n:Nat)(l:List (DataW Unit)):Nat:=(l.map (size subs n)).sum
theorem gIj {n:Nat}{l:List (DataW Unit)}{j:Nat}{x:DataW Unit}(h:l[j]? = some x):uF n (l.drop j)=size subs n x+uF n (l.drop (j+1)):=by
 obtain⟨hlt,he⟩:=zzc.1 h
 rw[List.drop_eq_getElem_cons hlt,he]
 rfl
theorem k72{p:Prop}(h:p:=by
  obtain⟨b', o,x,k', s', a', len', cap', e1,_,e2,e3⟩:=pM hl hk hi;exact⟨b', o,x,k', s', a', len', cap', e1,e2,(e3 w0 (zzd _ _)).2.2.2,fun W hW=>⟨(e3 W hW).1,(e3 W hW).2.1,(e3 W hW).2.2.1⟩⟩
  ):p:=h
theorem hCa (w0 w:World)(Bn n:Nat)(gs:List Grp)(ga:Option Addr)(gl gc:Nat)(ih:gQn w0 gs ga gl gc Bn n)(N:List gL)(s:ByteArray)(ka:Option Addr)(kl kc:Nat)(ts:List (DataW Unit))(a b m:Nat)
  (hl:ts.length=kl) (hz:kl<=9223372036854775807) (hk:kl=0\/∃b o,ka=some ⟨b,o,none⟩/\b<w0.heap.size/\∀i x,ts[i]? = some x->∃(k' : Int) (s' : ByteArray) (a' : Option Addr) (len' cap' : Nat),w0.cell? ⟨b,o+i * 3,none⟩=some (.int .i64 k')/\w0.cell? ⟨b,o+i * 3+1,none⟩=some (.string s')/\w0.cell? ⟨b,o+i * 3+2,none⟩=some (.slice a' len' cap')/\Ex w0 n x (.agg #[.int .i64 k', .string s', .slice a' len' cap']))
  (hS:∀x∈ts,SK gs n x)(h:gW w0 w Bn N)(ha:a<N.length)(hb:b<N.length)(hN:N.length+4 * (1+uF n ts)<=50000)(hf:lW m N)(hm:m+4 * (1+uF n ts)<=50000) :
  Calls Tryz.prog 112 #[.pointer (some ⟨Bn,0,none⟩),.agg #[.int .i64 2,.string s,.slice ka kl kc],.slice ga gl gc,.int .i64 (a:Int),.int .i64 (b:Int)] w fun e w' => e=.returned (.tuple #[])/\gW w0 w' Bn (yU (nD gs n) ts a b N)/\gM w w' := by
 obtain⟨w1,hw1⟩:∃w1,w1=w.alloc (.cells #[.int .i64 2,.string s,.slice ka kl kc] 69):=⟨_,rfl⟩
 have hB1:Below w.heap.size w w1:=by rw[hw1];exact(zzd _ w).alloc (zzb _) _
 have HX:Hid (∀X,gM w1 X->X.cell? ⟨w.heap.size,0,none⟩=some (.int .i64 2)/\X.cell? ⟨w.heap.size,1,none⟩=some (.string s)/\X.cell? ⟨w.heap.size,2,none⟩=some (.slice ka kl kc)):=fun X hX=>by
  rw[hw1] at hX;obtain⟨a0,a1,a2,_⟩:=tH hX;exact⟨a0,a1,a2⟩
 have HW1:Hid (w.alloc (.cells #[.int .i64 2,.string s,.slice ka kl kc] 69)=w1):=hw1.symm
 have HKW:Hid (∀X,gM w1 X->gM w X):=fun X hX=>(gM.of_below hB1).trans hX
 obtain⟨R,hR⟩:∃R,R=yU (nD gs n) ts a b N:=⟨_,rfl⟩
 have HI0:Hid (∃Nj aj mj,(a:Int)=((aj:Nat):Int)/\R=yU (nD gs n) (ts.drop 0) aj b Nj/\gW w0 w1 Bn Nj/\aj<Nj.length/\b<Nj.length/\Nj.length+4 * uF n (ts.drop 0)+1<=50000/\lW mj Nj/\mj+4 * uF n (ts.drop 0)+1<=50000/\gM w1 w1):=by
  refine⟨N,a,m,rfl,by rw[List.drop_zero];exact hR,h.keep hB1,ha,hb,?_,hf,?_,gM.refl _⟩
  ·rw[List.drop_zero];omega
  ·rw[List.drop_zero];omega
 rw[<-hR]
 have HKID:Hid (∀i,i<kl->∃b' o x k' s' a' len' cap', ka=some ⟨b', o,none⟩/\ts[i]? = some x/\Ex w0 n x (.agg #[.int .i64 k', .string s', .slice a' len' cap'])/\∀W:World,Below w0.heap.size w0 W->W.cell? ⟨b', o+i * 3,none⟩=some (.int .i64 k')/\W.cell? ⟨b', o+i * 3+1,none⟩=some (.string s')/\W.cell? ⟨b', o+i * 3+2,none⟩=some (.slice a' len' cap')):=fun i hi=>by
  exact k72
 have HIH:Hid (gQn w0 gs ga gl gc Bn n):=ih
 have HSA:Hid (∀x∈ts,SK gs n x):=hS
 have HTL:Hid (ts.length=kl):=hl
 have hzi:(kl:Int)<=9223372036854775807:=by omega
 clear h ha hb hN hf hm hB1 hw1 hk ih hS hl hR hz
 go_enter Tryz.func112,Tryz.ntmps112
 go_wp2_with fail
 rw[HW1.out]
 clear HW1
 go_loopg [3,11] (kl+1) (fun gk u v wr=>∃j Nj aj mj,j<=kl/\kl<j+gk/\u=.int .i64 ((aj:Nat):Int)/\v=.int .i64 (j:Int)/\R=yU (nD gs n) (ts.drop j) aj b Nj/\gW w0 wr Bn Nj/\aj<Nj.length/\b<Nj.length/\Nj.length+4 * uF n (ts.drop j)+1<=50000/\lW mj Nj/\mj+4 * uF n (ts.drop j)+1<=50000/\gM w1 wr)
 case atStart=>
  obtain⟨Nj,aj,mj,e0,e1,e2⟩:=HI0.out;exact⟨0,Nj,aj,mj,zzn _,oo,by rw[e0],rfl,e1,e2⟩
 case round=>
  obtain⟨j,Nj,aj,mj,hj,hgk,rfl,rfl,hR,hN,haj,hbj,hlen,hf,hmj,hK⟩:=hrel;clear HI0;obtain⟨q0,q1,q2⟩:=HX.out wr hK
  by_cases hlt:j<kl
  ·obtain⟨b', o,x,k', s', a', len', cap', rfl,hx,hE,hcx⟩:=HKID.out j hlt
   have hsum:=gIj (n:=n) hx;have hSx:=HSA.out x (zzj hx);have hpos:=wG hSx.1;have hpl:=gR Nj;have HP:=lN w0 wr Bn Nj hN oo;(have HL:Hid (∀X,gW w0 X Bn (gI Nj)->Calls Tryz.prog 112 #[.pointer (some ⟨Bn,0,none⟩),.agg #[.int .i64 k', .string s', .slice a' len' cap'],.slice ga gl gc,.int .i64 (aj:Int),.int .i64 (Nj.length:Int)] X fun e w' => e=.returned (.tuple #[])/\gW w0 w' Bn (nD gs n x aj Nj.length (gI Nj))/\gM X w'):=fun X hX=>HIH.out x _ X aj Nj.length (gI Nj) mj hE hSx hX oo oo oo (by simpa using (kW Nj).few mj hf) oo);have hA:=sL hSx.1 (a:=aj) (b:=Nj.length) (N:=gI Nj) oo oo
   have HNEXT:Hid (R=yU (nD gs n) (ts.drop (j+1)) Nj.length b (nD gs n x aj Nj.length (gI Nj))/\Nj.length<(nD gs n x aj Nj.length (gI Nj)).length/\b<(nD gs n x aj Nj.length (gI Nj)).length/\(nD gs n x aj Nj.length (gI Nj)).length+4 * uF n (ts.drop (j+1))+1<=50000/\lW (mj+4 * size subs n x) (nD gs n x aj Nj.length (gI Nj))/\mj+4 * size subs n x+4 * uF n (ts.drop (j+1))+1<=50000):=by
    have hlo:=hA.lo;have hhi:=hA.hi;refine⟨?_,oo,oo,oo,hA.few mj (by simpa using (kW Nj).few mj hf),oo⟩;obtain⟨hlt', he⟩:=zzc.1 hx;rw[hR,List.drop_eq_getElem_cons hlt', he]
    rfl
   obtain⟨N2,hN2⟩:∃N2,N2=nD gs n x aj Nj.length (gI Nj):=⟨_,rfl⟩;rw[<-hN2] at HL HNEXT;have HCX:Hid (∀W:World,Below w0.heap.size w0 W->W.cell? ⟨b', o+j * 3,none⟩=some (.int .i64 k')/\W.cell? ⟨b', o+j * 3+1,none⟩=some (.string s')/\W.cell? ⟨b', o+j * 3+2,none⟩=some (.slice a' len' cap')):=hcx;(have hji:(j:Int)<(kl:Int):=by omega);(have hj0:(0:Int)<=(j:Int):=by omega);have HGK:Hid (kl<j+gk):=hgk;have HK:Hid (gM w1 wr):=hK;clear hgk hR hN haj hbj hlen hf hmj hx hE hcx hsum hSx hpos hpl hA hN2 HIH HSA HKID hK;(go_wp2_with fail);refine HP.mono ?_;rintro e W2 ⟨rfl,hN2,hK2⟩;have hK12:=HK.out.trans hK2;obtain⟨p0,p1,p2⟩:=HX.out W2 hK12;obtain⟨r0,r1,r2⟩:=HCX.out W2 hN2.bel;have HL2:=HL.out W2 hN2;clear HP HL HCX q0 q1 q2 hN2 hK2;(go_wp2_with fail);refine HL2.mono ?_;rintro e W3 ⟨rfl,hN3,hK3⟩;have HK3:Hid (gM w1 W3):=hK12.trans hK3;have HN3:Hid (gW w0 W3 Bn N2):=hN3;obtain⟨t0,t1,t2⟩:=HX.out W3 HK3.out;clear HL2 p0 p1 p2 r0 r1 r2 hN3 hK3 hK12;go_wp2_with fail
   go_roundg (kl - j)
   case measure=>have:=HGK.out;omega
   case rel=>
    obtain⟨e1,e2,e3,e4,e5,e6⟩:=HNEXT.out;exact⟨j+1,N2,Nj.length,mj+4 * size subs n x,oo,oo,rfl,by first | rfl | go_num,e1,HN3.out,e2,e3,e4,e5,e6,HK3.out⟩
  ·obtain rfl:j=kl:=by omega
   have hd:ts.drop j=[]:=List.drop_eq_nil_of_le (Nat.le_of_eq HTL.out);rw[hd] at hR hlen hmj;have HF:=oK w0 wr Bn Nj aj b hN haj oo (hf.more oo);have HR:Hid (R=iT Nj aj b):=hR;have HK:Hid (gM w1 wr):=hK;clear hR hN haj hbj hlen hf hmj hd hgk HIH HSA HKID hK;(go_wp2_with fail);refine HF.mono ?_;rintro e W ⟨rfl,hN2,hK2⟩
   have HE:Hid (gW w0 W Bn R/\gM w W):=by
    rw[HR.out];exact⟨hN2,HKW.out _ (HK.out.trans hK2)⟩
   clear HF hN2 hK2;go_wp2
   go_end0
   exact⟨rfl,HE.out⟩
theorem hCb (w0 w:World)(Bn n:Nat)(gs:List Grp)(ga:Option Addr)(gl gc:Nat)(ih:gQn w0 gs ga gl gc Bn n)(N:List gL)(s:ByteArray)(ka:Option Addr)(kl kc:Nat)(ts:List (DataW Unit))(a b m:Nat)
  (hl:ts.length=kl) (hz:kl<=9223372036854775807) (hk:kl=0\/∃b o,ka=some ⟨b,o,none⟩/\b<w0.heap.size/\∀i x,ts[i]? = some x->∃(k' : Int) (s' : ByteArray) (a' : Option Addr) (len' cap' : Nat),w0.cell? ⟨b,o+i * 3,none⟩=some (.int .i64 k')/\w0.cell? ⟨b,o+i * 3+1,none⟩=some (.string s')/\w0.cell? ⟨b,o+i * 3+2,none⟩=some (.slice a' len' cap')/\Ex w0 n x (.agg #[.int .i64 k', .string s', .slice a' len' cap']))
  (hS:∀x∈ts,SK gs n x)(h:gW w0 w Bn N)(ha:a<N.length)(hb:b<N.length)(hN:N.length+4 * (1+uF n ts)<=50000)(hf:lW m N)(hm:m+4 * (1+uF n ts)<=50000) :
  Calls Tryz.prog 112 #[.pointer (some ⟨Bn,0,none⟩),.agg #[.int .i64 3,.string s,.slice ka kl kc],.slice ga gl gc,.int .i64 (a:Int),.int .i64 (b:Int)] w fun e w' => e=.returned (.tuple #[])/\gW w0 w' Bn (uE (nD gs n) ts a b N)/\gM w w' := by
 obtain⟨w1,hw1⟩:∃w1,w1=w.alloc (.cells #[.int .i64 3,.string s,.slice ka kl kc] 69):=⟨_,rfl⟩
 have hB1:Below w.heap.size w w1:=by rw[hw1];exact(zzd _ w).alloc (zzb _) _
 have HX:Hid (∀X,gM w1 X->X.cell? ⟨w.heap.size,0,none⟩=some (.int .i64 3)/\X.cell? ⟨w.heap.size,1,none⟩=some (.string s)/\X.cell? ⟨w.heap.size,2,none⟩=some (.slice ka kl kc)):=fun X hX=>by
  rw[hw1] at hX;obtain⟨a0,a1,a2,_⟩:=tH hX;exact⟨a0,a1,a2⟩
 have HW1:Hid (w.alloc (.cells #[.int .i64 3,.string s,.slice ka kl kc] 69)=w1):=hw1.symm
 have HKW:Hid (∀X,gM w1 X->gM w X):=fun X hX=>(gM.of_below hB1).trans hX
 obtain⟨R,hR⟩:∃R,R=uE (nD gs n) ts a b N:=⟨_,rfl⟩
 have HI0:Hid (∃Nj mj,R=uE (nD gs n) (ts.drop 0) a b Nj/\gW w0 w1 Bn Nj/\a<Nj.length/\b<Nj.length/\Nj.length+4 * uF n (ts.drop 0)+1<=50000/\lW mj Nj/\mj+4 * uF n (ts.drop 0)+1<=50000/\gM w1 w1):=by
  refine⟨N,m,by rw[List.drop_zero];exact hR,h.keep hB1,ha,hb,?_,hf,?_,gM.refl _⟩
  ·rw[List.drop_zero];omega
  ·rw[List.drop_zero];omega
 rw[<-hR]
 have HKID:Hid (∀i,i<kl->∃b' o x k' s' a' len' cap', ka=some ⟨b', o,none⟩/\ts[i]? = some x/\Ex w0 n x (.agg #[.int .i64 k', .string s', .slice a' len' cap'])/\∀W:World,Below w0.heap.size w0 W->W.cell? ⟨b', o+i * 3,none⟩=some (.int .i64 k')/\W.cell? ⟨b', o+i * 3+1,none⟩=some (.string s')/\W.cell? ⟨b', o+i * 3+2,none⟩=some (.slice a' len' cap')):=fun i hi=>by
  exact k72
 have HIH:Hid (gQn w0 gs ga gl gc Bn n):=ih
 have HSA:Hid (∀x∈ts,SK gs n x):=hS
 have HTL:Hid (ts.length=kl):=hl
 have hzi:(kl:Int)<=9223372036854775807:=by omega
 clear h ha hb hN hf hm hB1 hw1 hk ih hS hl hR hz
 go_enter Tryz.func112,Tryz.ntmps112
 go_wp2_with fail
 rw[HW1.out]
 clear HW1
 go_loopg [13] (kl+1) (fun gk v wr=>∃j Nj mj,j<=kl/\kl<j+gk/\v=.int .i64 (j:Int)/\R=uE (nD gs n) (ts.drop j) a b Nj/\gW w0 wr Bn Nj/\a<Nj.length/\b<Nj.length/\Nj.length+4 * uF n (ts.drop j)+1<=50000/\lW mj Nj/\mj+4 * uF n (ts.drop j)+1<=50000/\gM w1 wr)
 case atStart=>
  obtain⟨Nj,mj,e1,e2⟩:=HI0.out;exact⟨0,Nj,mj,zzn _,oo,rfl,e1,e2⟩
 case round=>
  obtain⟨j,Nj,mj,hj,hgk,rfl,hR,hN,haj,hbj,hlen,hf,hmj,hK⟩:=hrel;clear HI0;obtain⟨q0,q1,q2⟩:=HX.out wr hK
  by_cases hlt:j<kl
  ·obtain⟨b', o,x,k', s', a', len', cap', rfl,hx,hE,hcx⟩:=HKID.out j hlt
   have hsum:=gIj (n:=n) hx;have hSx:=HSA.out x (zzj hx);have hpos:=wG hSx.1;(have HL:Calls Tryz.prog 112 #[.pointer (some ⟨Bn,0,none⟩),.agg #[.int .i64 k', .string s', .slice a' len' cap'],.slice ga gl gc,.int .i64 (a:Int),.int .i64 (b:Int)] wr fun e w' => e=.returned (.tuple #[])/\gW w0 w' Bn (nD gs n x a b Nj)/\gM wr w' := HIH.out x _ wr a b Nj mj hE hSx hN haj hbj oo hf oo);have hA:=sL hSx.1 (a:=a) (b:=b) (N:=Nj) haj hbj
   have HNEXT:Hid (R=uE (nD gs n) (ts.drop (j+1)) a b (nD gs n x a b Nj)/\a<(nD gs n x a b Nj).length/\b<(nD gs n x a b Nj).length/\(nD gs n x a b Nj).length+4 * uF n (ts.drop (j+1))+1<=50000/\lW (mj+4 * size subs n x) (nD gs n x a b Nj)/\mj+4 * size subs n x+4 * uF n (ts.drop (j+1))+1<=50000):=by
    have hlo:=hA.lo;have hhi:=hA.hi;refine⟨?_,oo,oo,oo,hA.few mj hf,oo⟩;obtain⟨hlt', he⟩:=zzc.1 hx;rw[hR,List.drop_eq_getElem_cons hlt', he]
    rfl
   obtain⟨N2,hN2⟩:∃N2,N2=nD gs n x a b Nj:=⟨_,rfl⟩;rw[<-hN2] at HL HNEXT;obtain⟨r0,r1,r2⟩:=hcx wr hN.bel;(have hji:(j:Int)<(kl:Int):=by omega);(have hj0:(0:Int)<=(j:Int):=by omega);have HGK:Hid (kl<j+gk):=hgk;have HK:Hid (gM w1 wr):=hK;clear hgk hR hN haj hbj hlen hf hmj hx hE hcx hsum hSx hpos hA hN2 HIH HSA HKID hK;(go_wp2_with fail);refine HL.mono ?_;rintro e W3 ⟨rfl,hN3,hK3⟩;have HK3:Hid (gM w1 W3):=HK.out.trans hK3;have HN3:Hid (gW w0 W3 Bn N2):=hN3;obtain⟨t0,t1,t2⟩:=HX.out W3 HK3.out;clear HL q0 q1 q2 r0 r1 r2 hN3 hK3;go_wp2_with fail
   go_roundg (kl - j)
   case measure=>have:=HGK.out;omega
   case rel=>
    obtain⟨e1,e2,e3,e4,e5,e6⟩:=HNEXT.out;exact⟨j+1,N2,mj+4 * size subs n x,oo,oo,by first | rfl | go_num,e1,HN3.out,e2,e3,e4,e5,e6,HK3.out⟩
  ·obtain rfl:j=kl:=by omega
   have hd:ts.drop j=[]:=List.drop_eq_nil_of_le (Nat.le_of_eq HTL.out);rw[hd] at hR
   have HE:Hid (gW w0 wr Bn R/\gM w wr):=by
    rw[hR];exact⟨hN,HKW.out _ hK⟩
   clear hR hN haj hbj hlen hf hmj hd hgk HIH HSA HKID hK;go_wp2
   go_end0
   exact⟨rfl,HE.out⟩
end Go.Proofs.YtjkebndkeamijaaGreatDoor
/- NetLay2: the document's lay at signs, and at every right tree. -/
namespace Go.Proofs.YtjkebndkeamijaaGreatDoor
open Go.RowKit
theorem k156{p:Prop}(h:p:=by
  simp only[Nat.zero_mul,Nat.add_zero] at this;exact⟨this.1,this.2.1,this.2.2.1⟩
  ):p:=h
theorem k150{p:Prop}(h:p:=by
  rw[e3];exact oK w0 X Bn N2 a N.length hX oo oo (f2.more oo)
  ):p:=h
theorem k144{p:Prop}(h:p:=by
  rw[e5];exact oK w0 X Bn N4 (N.length+1) b hX oo oo (f4.more oo)
  ):p:=h
theorem k136{p:Prop}(h:p:=by
  rw[e6];exact oK w0 X Bn N5 (N.length+1) N.length hX oo oo (f5.more oo)
  ):p:=h
theorem k123{p:Prop}(h:p:=by
  rw[e4];exact ih x _ X N.length (N.length+1) N3 (m+1) hE hS hX oo oo oo f3 oo
  ):p:=h
theorem k68{p:Prop}(h:p:=by
  clear HF7 n6;(go_wp2_with fail);refine C7.mono ?_;rintro e X7 ⟨rfl,n7,k7'⟩;have HE:Hid (gW w0 X7 Bn N7/\gM w X7):=⟨n7,HKW.out _ (k6.trans k7')⟩;clear C7 n7 k7' k6;go_wp2
  go_end0
  exact⟨rfl,HE.out⟩
  ):p:=h
theorem gSw (w0 w:World)(Bn n:Nat)(gs:List Grp)(ga:Option Addr)(gl gc:Nat)(ih:gQn w0 gs ga gl gc Bn n)(N:List gL)(s:ByteArray)(ka:Option Addr)(kl kc:Nat)(x:DataW Unit)(a b m:Nat)
  (hl:[x].length=kl) (hk:kl=0\/∃b o,ka=some ⟨b,o,none⟩/\b<w0.heap.size/\∀i y,[x][i]? = some y->∃(k' : Int) (s' : ByteArray) (a' : Option Addr) (len' cap' : Nat),w0.cell? ⟨b,o+i * 3,none⟩=some (.int .i64 k')/\w0.cell? ⟨b,o+i * 3+1,none⟩=some (.string s')/\w0.cell? ⟨b,o+i * 3+2,none⟩=some (.slice a' len' cap')/\Ex w0 n y (.agg #[.int .i64 k', .string s', .slice a' len' cap']))
  (hS:SK gs n x)(h:gW w0 w Bn N)(ha:a<N.length)(hb:b<N.length)(hN:N.length+4 * (1+size subs n x)<=50000)(hf:lW m N)(hm:m+4 * (1+size subs n x)<=50000) :
  Calls Tryz.prog 112 #[.pointer (some ⟨Bn,0,none⟩),.agg #[.int .i64 4,.string s,.slice ka kl kc],.slice ga gl gc,.int .i64 (a:Int),.int .i64 (b:Int)] w fun e w' => e=.returned (.tuple #[])/\gW w0 w' Bn (sU (nD gs n) 4 [x] a b N)/\gM w w' := by
 obtain⟨w1,hw1⟩:∃w1,w1=w.alloc (.cells #[.int .i64 4,.string s,.slice ka kl kc] 69):=⟨_,rfl⟩
 have hB1:Below w.heap.size w w1:=by rw[hw1];exact(zzd _ w).alloc (zzb _) _
 have HX:Hid (∀X,gM w1 X->X.cell? ⟨w.heap.size,0,none⟩=some (.int .i64 4)/\X.cell? ⟨w.heap.size,1,none⟩=some (.string s)/\X.cell? ⟨w.heap.size,2,none⟩=some (.slice ka kl kc)):=fun X hX=>by
  rw[hw1] at hX;obtain⟨a0,a1,a2,_⟩:=tH hX;exact⟨a0,a1,a2⟩
 have HW1:Hid (w.alloc (.cells #[.int .i64 4,.string s,.slice ka kl kc] 69)=w1):=hw1.symm
 have HKW:Hid (∀X,gM w1 X->gM w X):=fun X hX=>(gM.of_below hB1).trans hX
 obtain rfl:kl=1:=by simpa using hl.symm
 obtain⟨b', o,x', k', s', a', len', cap', rfl,_,hx', hcx⟩:=pM hl hk (i:=0) oo
 obtain rfl:x=x' := by simpa using hx'
 have hE:=(hcx w0 (zzd _ _)).2.2.2
 have HCX:Hid (∀W:World,Below w0.heap.size w0 W->W.cell? ⟨b', o,none⟩=some (.int .i64 k')/\W.cell? ⟨b', o+1,none⟩=some (.string s')/\W.cell? ⟨b', o+2,none⟩=some (.slice a' len' cap')):=fun W hW=>by
  have:=hcx W hW
  exact k156
 have hpos:=wG hS.1
 -- the nets
 obtain⟨N1,e1⟩:∃N1,N1=gI N:=⟨_,rfl⟩
 have l1:N1.length=N.length+1:=by rw[e1,gR]
 have f1:lW m N1:=by rw[e1];simpa using (kW N).few m hf
 obtain⟨N2,e2⟩:∃N2,N2=gI N1:=⟨_,rfl⟩
 have l2:N2.length=N.length+2:=by rw[e2,gR];omega
 have f2:lW m N2:=by rw[e2];simpa using (kW N1).few m f1
 obtain⟨N3,e3⟩:∃N3,N3=iT N2 a N.length:=⟨_,rfl⟩
 have l3:N3.length=N.length+2:=by rw[e3,iH];exact l2
 have f3:lW (m+1) N3:=by rw[e3];exact(kX N2 a oo).few m f2
 have hA:=sL hS.1 (a:=N.length) (b:=N.length+1) (N:=N3) oo oo
 obtain⟨N4,e4⟩:∃N4,N4=nD gs n x N.length (N.length+1) N3:=⟨_,rfl⟩
 rw[<-e4] at hA
 have l4:=hA.lo
 have l4' := hA.hi
 have f4:lW (m+1+4 * size subs n x) N4:=hA.few _ f3
 obtain⟨N5,e5⟩:∃N5,N5=iT N4 (N.length+1) b:=⟨_,rfl⟩
 have l5:N5.length=N4.length:=by rw[e5,iH]
 have f5:lW (m+2+4 * size subs n x) N5:=by rw[e5];exact((kX N4 (N.length+1) oo).few _ f4).more oo
 obtain⟨N6,e6⟩:∃N6,N6=iT N5 (N.length+1) N.length:=⟨_,rfl⟩
 have l6:N6.length=N5.length:=by rw[e6,iH]
 have f6:lW (m+3+4 * size subs n x) N6:=by rw[e6];exact((kX N5 (N.length+1) oo).few _ f5).more oo
 obtain⟨N7,e7⟩:∃N7,N7=iT N6 a b:=⟨_,rfl⟩
 have hsign:sU (nD gs n) 4 [x] a b N=N7:=by
  rw[e7,e6,e5,e4,e3,e2,e1];simp[sU,gGk]
 rw[hsign]
 have HP1:Hid (Calls Tryz.prog 111 #[.pointer (some ⟨Bn,0,none⟩)] w1 fun e w' => e=.returned (.int .i64 (N.length:Int))/\gW w0 w' Bn N1/\gM w1 w'):=by rw[e1];exact lN w0 w1 Bn N (h.keep hB1) oo
 have HP2:Hid (∀X,gW w0 X Bn N1->Calls Tryz.prog 111 #[.pointer (some ⟨Bn,0,none⟩)] X fun e w' => e=.returned (.int .i64 ((N.length+1:Nat):Int))/\gW w0 w' Bn N2/\gM X w'):=fun X hX=>by
  rw[e2,<-l1];exact lN w0 X Bn N1 hX oo
 have HF3:Hid (∀X,gW w0 X Bn N2->Calls Tryz.prog 140 #[.pointer (some ⟨Bn,0,none⟩),.int .i64 (a:Int),.int .i64 (N.length:Int)] X fun e w' => e=.returned (.tuple #[])/\gW w0 w' Bn N3/\gM X w'):=fun X hX=>by
  exact k150
 have HL4:Hid (∀X,gW w0 X Bn N3->Calls Tryz.prog 112 #[.pointer (some ⟨Bn,0,none⟩),.agg #[.int .i64 k', .string s', .slice a' len' cap'],.slice ga gl gc,.int .i64 (N.length:Int),.int .i64 ((N.length+1:Nat):Int)] X fun e w' => e=.returned (.tuple #[])/\gW w0 w' Bn N4/\gM X w'):=fun X hX=>by
  exact k123
 have HF5:Hid (∀X,gW w0 X Bn N4->Calls Tryz.prog 140 #[.pointer (some ⟨Bn,0,none⟩),.int .i64 ((N.length+1:Nat):Int),.int .i64 (b:Int)] X fun e w' => e=.returned (.tuple #[])/\gW w0 w' Bn N5/\gM X w'):=fun X hX=>by
  exact k144
 have HF6:Hid (∀X,gW w0 X Bn N5->Calls Tryz.prog 140 #[.pointer (some ⟨Bn,0,none⟩),.int .i64 ((N.length+1:Nat):Int),.int .i64 (N.length:Int)] X fun e w' => e=.returned (.tuple #[])/\gW w0 w' Bn N6/\gM X w'):=fun X hX=>by
  exact k136
 have HF7:Hid (∀X,gW w0 X Bn N6->Calls Tryz.prog 140 #[.pointer (some ⟨Bn,0,none⟩),.int .i64 (a:Int),.int .i64 (b:Int)] X fun e w' => e=.returned (.tuple #[])/\gW w0 w' Bn N7/\gM X w'):=fun X hX=>by
  rw[e7];exact oK w0 X Bn N6 a b hX oo oo (f6.more oo)
 have E67:Hid (True):=trivial
 obtain⟨D,hD⟩:∃D:Int,D=((N.length+1:Nat):Int):=⟨_,rfl⟩
 rw[<-hD] at HP2 HL4 HF5 HF6
 clear hD hsign e1 e2 e3 e4 e5 e6 e7 l1 l2 l3 l4 l4' l5 l6 f1 f2 f3 f4 f5 f6 hA h ha hb hN hf hm hB1 hw1 hk ih hS hl hE hcx hx' hpos
 go_enter Tryz.func112,Tryz.ntmps112
 go_wp2_with fail
 rw[HW1.out]
 refine HP1.out.mono ?_
 rintro e X1 ⟨rfl,n1,k1⟩
 obtain⟨q0,q1,q2⟩:=HX.out X1 k1
 have C2:=HP2.out X1 n1
 clear HP1 HW1 HP2 n1
 go_wp2_with fail
 refine C2.mono ?_
 rintro e X2 ⟨rfl,n2,k2'⟩
 have k2:=k1.trans k2'
 have C3:=HF3.out X2 n2
 clear C2 HF3 q0 q1 q2 k1 k2' n2
 go_wp2_with fail
 refine C3.mono ?_
 rintro e X3 ⟨rfl,n3,k3'⟩
 have k3:=k2.trans k3'
 obtain⟨q0,q1,q2⟩:=HX.out X3 k3
 obtain⟨r0,r1,r2⟩:=HCX.out X3 n3.bel
 have C4:=HL4.out X3 n3
 clear C3 HL4 k2 k3' n3
 go_wp2_with fail
 refine C4.mono ?_
 rintro e X4 ⟨rfl,n4,k4'⟩
 have k4:=k3.trans k4'
 have C5:=HF5.out X4 n4
 clear C4 HF5 k3 k4' n4 q0 q1 q2 r0 r1 r2
 go_wp2_with fail
 refine C5.mono ?_
 rintro e X5 ⟨rfl,n5,k5'⟩
 have k5:=k4.trans k5'
 obtain⟨q0,q1,q2⟩:=HX.out X5 k5
 have C6:=HF6.out X5 n5
 clear C5 HF6 k4 k5' n5
 go_wp2_with fail
 refine C6.mono ?_
 rintro e X6 ⟨rfl,n6,k6'⟩
 have k6:=k5.trans k6'
 clear C6 k5 k6' q0 q1 q2
 obtain⟨q0,q1,q2⟩:=HX.out X6 k6
 have C7:=HF7.out X6 n6
 exact k68
theorem gSv (w0 w:World)(Bn n:Nat)(gs:List Grp)(ga:Option Addr)(gl gc:Nat)(ih:gQn w0 gs ga gl gc Bn n)(N:List gL)(s:ByteArray)(ka:Option Addr)(kl kc:Nat)(x:DataW Unit)(a b m:Nat)
  (hl:[x].length=kl) (hk:kl=0\/∃b o,ka=some ⟨b,o,none⟩/\b<w0.heap.size/\∀i y,[x][i]? = some y->∃(k' : Int) (s' : ByteArray) (a' : Option Addr) (len' cap' : Nat),w0.cell? ⟨b,o+i * 3,none⟩=some (.int .i64 k')/\w0.cell? ⟨b,o+i * 3+1,none⟩=some (.string s')/\w0.cell? ⟨b,o+i * 3+2,none⟩=some (.slice a' len' cap')/\Ex w0 n y (.agg #[.int .i64 k', .string s', .slice a' len' cap']))
  (hS:SK gs n x)(h:gW w0 w Bn N)(ha:a<N.length)(hb:b<N.length)(hN:N.length+4 * (1+size subs n x)<=50000)(hf:lW m N)(hm:m+4 * (1+size subs n x)<=50000) :
  Calls Tryz.prog 112 #[.pointer (some ⟨Bn,0,none⟩),.agg #[.int .i64 5,.string s,.slice ka kl kc],.slice ga gl gc,.int .i64 (a:Int),.int .i64 (b:Int)] w fun e w' => e=.returned (.tuple #[])/\gW w0 w' Bn (sU (nD gs n) 5 [x] a b N)/\gM w w' := by
 obtain⟨w1,hw1⟩:∃w1,w1=w.alloc (.cells #[.int .i64 5,.string s,.slice ka kl kc] 69):=⟨_,rfl⟩
 have hB1:Below w.heap.size w w1:=by rw[hw1];exact(zzd _ w).alloc (zzb _) _
 have HX:Hid (∀X,gM w1 X->X.cell? ⟨w.heap.size,0,none⟩=some (.int .i64 5)/\X.cell? ⟨w.heap.size,1,none⟩=some (.string s)/\X.cell? ⟨w.heap.size,2,none⟩=some (.slice ka kl kc)):=fun X hX=>by
  rw[hw1] at hX;obtain⟨a0,a1,a2,_⟩:=tH hX;exact⟨a0,a1,a2⟩
 have HW1:Hid (w.alloc (.cells #[.int .i64 5,.string s,.slice ka kl kc] 69)=w1):=hw1.symm
 have HKW:Hid (∀X,gM w1 X->gM w X):=fun X hX=>(gM.of_below hB1).trans hX
 obtain rfl:kl=1:=by simpa using hl.symm
 obtain⟨b', o,x', k', s', a', len', cap', rfl,_,hx', hcx⟩:=pM hl hk (i:=0) oo
 obtain rfl:x=x' := by simpa using hx'
 have hE:=(hcx w0 (zzd _ _)).2.2.2
 have HCX:Hid (∀W:World,Below w0.heap.size w0 W->W.cell? ⟨b', o,none⟩=some (.int .i64 k')/\W.cell? ⟨b', o+1,none⟩=some (.string s')/\W.cell? ⟨b', o+2,none⟩=some (.slice a' len' cap')):=fun W hW=>by
  have:=hcx W hW
  exact k156
 have hpos:=wG hS.1
 -- the nets
 obtain⟨N1,e1⟩:∃N1,N1=gI N:=⟨_,rfl⟩
 have l1:N1.length=N.length+1:=by rw[e1,gR]
 have f1:lW m N1:=by rw[e1];simpa using (kW N).few m hf
 obtain⟨N2,e2⟩:∃N2,N2=gI N1:=⟨_,rfl⟩
 have l2:N2.length=N.length+2:=by rw[e2,gR];omega
 have f2:lW m N2:=by rw[e2];simpa using (kW N1).few m f1
 obtain⟨N3,e3⟩:∃N3,N3=iT N2 a N.length:=⟨_,rfl⟩
 have l3:N3.length=N.length+2:=by rw[e3,iH];exact l2
 have f3:lW (m+1) N3:=by rw[e3];exact(kX N2 a oo).few m f2
 have hA:=sL hS.1 (a:=N.length) (b:=N.length+1) (N:=N3) oo oo
 obtain⟨N4,e4⟩:∃N4,N4=nD gs n x N.length (N.length+1) N3:=⟨_,rfl⟩
 rw[<-e4] at hA
 have l4:=hA.lo
 have l4' := hA.hi
 have f4:lW (m+1+4 * size subs n x) N4:=hA.few _ f3
 obtain⟨N5,e5⟩:∃N5,N5=iT N4 (N.length+1) b:=⟨_,rfl⟩
 have l5:N5.length=N4.length:=by rw[e5,iH]
 have f5:lW (m+2+4 * size subs n x) N5:=by rw[e5];exact((kX N4 (N.length+1) oo).few _ f4).more oo
 obtain⟨N6,e6⟩:∃N6,N6=iT N5 (N.length+1) N.length:=⟨_,rfl⟩
 have l6:N6.length=N5.length:=by rw[e6,iH]
 have f6:lW (m+3+4 * size subs n x) N6:=by rw[e6];exact((kX N5 (N.length+1) oo).few _ f5).more oo
 obtain⟨N7,e7⟩:∃N7,N7=N6:=⟨_,rfl⟩
 have hsign:sU (nD gs n) 5 [x] a b N=N7:=by
  rw[e7,e6,e5,e4,e3,e2,e1];simp[sU,gGk]
 rw[hsign]
 have HP1:Hid (Calls Tryz.prog 111 #[.pointer (some ⟨Bn,0,none⟩)] w1 fun e w' => e=.returned (.int .i64 (N.length:Int))/\gW w0 w' Bn N1/\gM w1 w'):=by rw[e1];exact lN w0 w1 Bn N (h.keep hB1) oo
 have HP2:Hid (∀X,gW w0 X Bn N1->Calls Tryz.prog 111 #[.pointer (some ⟨Bn,0,none⟩)] X fun e w' => e=.returned (.int .i64 ((N.length+1:Nat):Int))/\gW w0 w' Bn N2/\gM X w'):=fun X hX=>by
  rw[e2,<-l1];exact lN w0 X Bn N1 hX oo
 have HF3:Hid (∀X,gW w0 X Bn N2->Calls Tryz.prog 140 #[.pointer (some ⟨Bn,0,none⟩),.int .i64 (a:Int),.int .i64 (N.length:Int)] X fun e w' => e=.returned (.tuple #[])/\gW w0 w' Bn N3/\gM X w'):=fun X hX=>by
  exact k150
 have HL4:Hid (∀X,gW w0 X Bn N3->Calls Tryz.prog 112 #[.pointer (some ⟨Bn,0,none⟩),.agg #[.int .i64 k', .string s', .slice a' len' cap'],.slice ga gl gc,.int .i64 (N.length:Int),.int .i64 ((N.length+1:Nat):Int)] X fun e w' => e=.returned (.tuple #[])/\gW w0 w' Bn N4/\gM X w'):=fun X hX=>by
  exact k123
 have HF5:Hid (∀X,gW w0 X Bn N4->Calls Tryz.prog 140 #[.pointer (some ⟨Bn,0,none⟩),.int .i64 ((N.length+1:Nat):Int),.int .i64 (b:Int)] X fun e w' => e=.returned (.tuple #[])/\gW w0 w' Bn N5/\gM X w'):=fun X hX=>by
  exact k144
 have HF6:Hid (∀X,gW w0 X Bn N5->Calls Tryz.prog 140 #[.pointer (some ⟨Bn,0,none⟩),.int .i64 ((N.length+1:Nat):Int),.int .i64 (N.length:Int)] X fun e w' => e=.returned (.tuple #[])/\gW w0 w' Bn N6/\gM X w'):=fun X hX=>by
  exact k136
 have E67:Hid (N7=N6):=e7
 obtain⟨D,hD⟩:∃D:Int,D=((N.length+1:Nat):Int):=⟨_,rfl⟩
 rw[<-hD] at HP2 HL4 HF5 HF6
 clear hD hsign e1 e2 e3 e4 e5 e6 e7 l1 l2 l3 l4 l4' l5 l6 f1 f2 f3 f4 f5 f6 hA h ha hb hN hf hm hB1 hw1 hk ih hS hl hE hcx hx' hpos
 go_enter Tryz.func112,Tryz.ntmps112
 go_wp2_with fail
 rw[HW1.out]
 refine HP1.out.mono ?_
 rintro e X1 ⟨rfl,n1,k1⟩
 obtain⟨q0,q1,q2⟩:=HX.out X1 k1
 have C2:=HP2.out X1 n1
 clear HP1 HW1 HP2 n1
 go_wp2_with fail
 refine C2.mono ?_
 rintro e X2 ⟨rfl,n2,k2'⟩
 have k2:=k1.trans k2'
 have C3:=HF3.out X2 n2
 clear C2 HF3 q0 q1 q2 k1 k2' n2
 go_wp2_with fail
 refine C3.mono ?_
 rintro e X3 ⟨rfl,n3,k3'⟩
 have k3:=k2.trans k3'
 obtain⟨q0,q1,q2⟩:=HX.out X3 k3
 obtain⟨r0,r1,r2⟩:=HCX.out X3 n3.bel
 have C4:=HL4.out X3 n3
 clear C3 HL4 k2 k3' n3
 go_wp2_with fail
 refine C4.mono ?_
 rintro e X4 ⟨rfl,n4,k4'⟩
 have k4:=k3.trans k4'
 have C5:=HF5.out X4 n4
 clear C4 HF5 k3 k4' n4 q0 q1 q2 r0 r1 r2
 go_wp2_with fail
 refine C5.mono ?_
 rintro e X5 ⟨rfl,n5,k5'⟩
 have k5:=k4.trans k5'
 obtain⟨q0,q1,q2⟩:=HX.out X5 k5
 have C6:=HF6.out X5 n5
 clear C5 HF6 k4 k5' n5
 go_wp2_with fail
 refine C6.mono ?_
 rintro e X6 ⟨rfl,n6,k6'⟩
 have k6:=k5.trans k6'
 clear C6 k5 k6' q0 q1 q2
 obtain⟨q0,q1,q2⟩:=HX.out X6 k6
 have HE:Hid (gW w0 X6 Bn N7/\gM w X6):=⟨by rw[E67.out];exact n6,HKW.out _ k6⟩
 clear n6 k6
 go_wp2
 go_end0
 exact⟨rfl,HE.out⟩
theorem gSu (w0 w:World)(Bn n:Nat)(gs:List Grp)(ga:Option Addr)(gl gc:Nat)(ih:gQn w0 gs ga gl gc Bn n)(N:List gL)(s:ByteArray)(ka:Option Addr)(kl kc:Nat)(x:DataW Unit)(a b m:Nat)
  (hl:[x].length=kl) (hk:kl=0\/∃b o,ka=some ⟨b,o,none⟩/\b<w0.heap.size/\∀i y,[x][i]? = some y->∃(k' : Int) (s' : ByteArray) (a' : Option Addr) (len' cap' : Nat),w0.cell? ⟨b,o+i * 3,none⟩=some (.int .i64 k')/\w0.cell? ⟨b,o+i * 3+1,none⟩=some (.string s')/\w0.cell? ⟨b,o+i * 3+2,none⟩=some (.slice a' len' cap')/\Ex w0 n y (.agg #[.int .i64 k', .string s', .slice a' len' cap']))
  (hS:SK gs n x)(h:gW w0 w Bn N)(ha:a<N.length)(hb:b<N.length)(hN:N.length+4 * (1+size subs n x)<=50000)(hf:lW m N)(hm:m+4 * (1+size subs n x)<=50000) :
  Calls Tryz.prog 112 #[.pointer (some ⟨Bn,0,none⟩),.agg #[.int .i64 6,.string s,.slice ka kl kc],.slice ga gl gc,.int .i64 (a:Int),.int .i64 (b:Int)] w fun e w' => e=.returned (.tuple #[])/\gW w0 w' Bn (sU (nD gs n) 6 [x] a b N)/\gM w w' := by
 obtain⟨w1,hw1⟩:∃w1,w1=w.alloc (.cells #[.int .i64 6,.string s,.slice ka kl kc] 69):=⟨_,rfl⟩
 have hB1:Below w.heap.size w w1:=by rw[hw1];exact(zzd _ w).alloc (zzb _) _
 have HX:Hid (∀X,gM w1 X->X.cell? ⟨w.heap.size,0,none⟩=some (.int .i64 6)/\X.cell? ⟨w.heap.size,1,none⟩=some (.string s)/\X.cell? ⟨w.heap.size,2,none⟩=some (.slice ka kl kc)):=fun X hX=>by
  rw[hw1] at hX;obtain⟨a0,a1,a2,_⟩:=tH hX;exact⟨a0,a1,a2⟩
 have HW1:Hid (w.alloc (.cells #[.int .i64 6,.string s,.slice ka kl kc] 69)=w1):=hw1.symm
 have HKW:Hid (∀X,gM w1 X->gM w X):=fun X hX=>(gM.of_below hB1).trans hX
 obtain rfl:kl=1:=by simpa using hl.symm
 obtain⟨b', o,x', k', s', a', len', cap', rfl,_,hx', hcx⟩:=pM hl hk (i:=0) oo
 obtain rfl:x=x' := by simpa using hx'
 have hE:=(hcx w0 (zzd _ _)).2.2.2
 have HCX:Hid (∀W:World,Below w0.heap.size w0 W->W.cell? ⟨b', o,none⟩=some (.int .i64 k')/\W.cell? ⟨b', o+1,none⟩=some (.string s')/\W.cell? ⟨b', o+2,none⟩=some (.slice a' len' cap')):=fun W hW=>by
  have:=hcx W hW
  exact k156
 have hpos:=wG hS.1
 -- the nets
 obtain⟨N1,e1⟩:∃N1,N1=gI N:=⟨_,rfl⟩
 have l1:N1.length=N.length+1:=by rw[e1,gR]
 have f1:lW m N1:=by rw[e1];simpa using (kW N).few m hf
 obtain⟨N2,e2⟩:∃N2,N2=gI N1:=⟨_,rfl⟩
 have l2:N2.length=N.length+2:=by rw[e2,gR];omega
 have f2:lW m N2:=by rw[e2];simpa using (kW N1).few m f1
 obtain⟨N3,e3⟩:∃N3,N3=iT N2 a N.length:=⟨_,rfl⟩
 have l3:N3.length=N.length+2:=by rw[e3,iH];exact l2
 have f3:lW (m+1) N3:=by rw[e3];exact(kX N2 a oo).few m f2
 have hA:=sL hS.1 (a:=N.length) (b:=N.length+1) (N:=N3) oo oo
 obtain⟨N4,e4⟩:∃N4,N4=nD gs n x N.length (N.length+1) N3:=⟨_,rfl⟩
 rw[<-e4] at hA
 have l4:=hA.lo
 have l4' := hA.hi
 have f4:lW (m+1+4 * size subs n x) N4:=hA.few _ f3
 obtain⟨N5,e5⟩:∃N5,N5=iT N4 (N.length+1) b:=⟨_,rfl⟩
 have l5:N5.length=N4.length:=by rw[e5,iH]
 have f5:lW (m+2+4 * size subs n x) N5:=by rw[e5];exact((kX N4 (N.length+1) oo).few _ f4).more oo
 obtain⟨N6,e6⟩:∃N6,N6=N5:=⟨_,rfl⟩
 have l6:N6.length=N5.length:=by rw[e6]
 have f6:lW (m+3+4 * size subs n x) N6:=by rw[e6];exact f5.more oo
 obtain⟨N7,e7⟩:∃N7,N7=iT N6 a b:=⟨_,rfl⟩
 have hsign:sU (nD gs n) 6 [x] a b N=N7:=by
  rw[e7,e6,e5,e4,e3,e2,e1];simp[sU,gGk]
 rw[hsign]
 have HP1:Hid (Calls Tryz.prog 111 #[.pointer (some ⟨Bn,0,none⟩)] w1 fun e w' => e=.returned (.int .i64 (N.length:Int))/\gW w0 w' Bn N1/\gM w1 w'):=by rw[e1];exact lN w0 w1 Bn N (h.keep hB1) oo
 have HP2:Hid (∀X,gW w0 X Bn N1->Calls Tryz.prog 111 #[.pointer (some ⟨Bn,0,none⟩)] X fun e w' => e=.returned (.int .i64 ((N.length+1:Nat):Int))/\gW w0 w' Bn N2/\gM X w'):=fun X hX=>by
  rw[e2,<-l1];exact lN w0 X Bn N1 hX oo
 have HF3:Hid (∀X,gW w0 X Bn N2->Calls Tryz.prog 140 #[.pointer (some ⟨Bn,0,none⟩),.int .i64 (a:Int),.int .i64 (N.length:Int)] X fun e w' => e=.returned (.tuple #[])/\gW w0 w' Bn N3/\gM X w'):=fun X hX=>by
  exact k150
 have HL4:Hid (∀X,gW w0 X Bn N3->Calls Tryz.prog 112 #[.pointer (some ⟨Bn,0,none⟩),.agg #[.int .i64 k', .string s', .slice a' len' cap'],.slice ga gl gc,.int .i64 (N.length:Int),.int .i64 ((N.length+1:Nat):Int)] X fun e w' => e=.returned (.tuple #[])/\gW w0 w' Bn N4/\gM X w'):=fun X hX=>by
  exact k123
 have HF5:Hid (∀X,gW w0 X Bn N4->Calls Tryz.prog 140 #[.pointer (some ⟨Bn,0,none⟩),.int .i64 ((N.length+1:Nat):Int),.int .i64 (b:Int)] X fun e w' => e=.returned (.tuple #[])/\gW w0 w' Bn N5/\gM X w'):=fun X hX=>by
  exact k144
 have HF7:Hid (∀X,gW w0 X Bn N6->Calls Tryz.prog 140 #[.pointer (some ⟨Bn,0,none⟩),.int .i64 (a:Int),.int .i64 (b:Int)] X fun e w' => e=.returned (.tuple #[])/\gW w0 w' Bn N7/\gM X w'):=fun X hX=>by
  rw[e7];exact oK w0 X Bn N6 a b hX oo oo (f6.more oo)
 have E67:Hid (N6=N5):=e6
 obtain⟨D,hD⟩:∃D:Int,D=((N.length+1:Nat):Int):=⟨_,rfl⟩
 rw[<-hD] at HP2 HL4 HF5
 clear hD hsign e1 e2 e3 e4 e5 e6 e7 l1 l2 l3 l4 l4' l5 l6 f1 f2 f3 f4 f5 f6 hA h ha hb hN hf hm hB1 hw1 hk ih hS hl hE hcx hx' hpos
 go_enter Tryz.func112,Tryz.ntmps112
 go_wp2_with fail
 rw[HW1.out]
 refine HP1.out.mono ?_
 rintro e X1 ⟨rfl,n1,k1⟩
 obtain⟨q0,q1,q2⟩:=HX.out X1 k1
 have C2:=HP2.out X1 n1
 clear HP1 HW1 HP2 n1
 go_wp2_with fail
 refine C2.mono ?_
 rintro e X2 ⟨rfl,n2,k2'⟩
 have k2:=k1.trans k2'
 have C3:=HF3.out X2 n2
 clear C2 HF3 q0 q1 q2 k1 k2' n2
 go_wp2_with fail
 refine C3.mono ?_
 rintro e X3 ⟨rfl,n3,k3'⟩
 have k3:=k2.trans k3'
 obtain⟨q0,q1,q2⟩:=HX.out X3 k3
 obtain⟨r0,r1,r2⟩:=HCX.out X3 n3.bel
 have C4:=HL4.out X3 n3
 clear C3 HL4 k2 k3' n3
 go_wp2_with fail
 refine C4.mono ?_
 rintro e X4 ⟨rfl,n4,k4'⟩
 have k4:=k3.trans k4'
 have C5:=HF5.out X4 n4
 clear C4 HF5 k3 k4' n4 q0 q1 q2 r0 r1 r2
 go_wp2_with fail
 refine C5.mono ?_
 rintro e X5 ⟨rfl,n5,k5'⟩
 have k5:=k4.trans k5'
 obtain⟨q0,q1,q2⟩:=HX.out X5 k5
 have n6:gW w0 X5 Bn N6:=by rw[E67.out];exact n5
 have k6:=k5
 clear C5 k4 k5' n5 k5
 have C7:=HF7.out X5 n6
 exact k68
theorem gVs (n:Nat)(k:Int)(s:ByteArray)(ts:List (DataW Unit)):size subs (n+1) (node k s ts)=1+uF n ts:=by
 rw[size,iC]
 rfl
theorem hDx {gs:List Grp}{n:Nat}{k:Int}{s:ByteArray}{ts:List (DataW Unit)}(h:SK gs (n+1) (node k s ts)):(k=0\/k=1\/k=2\/k=3\/k=4\/k=5\/k=6)/\(k=4\/k=5\/k=6->∃x,ts=[x])/\∀x∈ts,SK gs n x:=by
 obtain⟨h1,h2⟩:=h
 obtain⟨_,_,s4,sk⟩:=gFr h1
 rw[gCy,iN,iC] at h2
 exact⟨h2.1,s4,fun x hx=>⟨sk x hx,h2.2 x hx⟩⟩
theorem gSx (w0:World)(gs:List Grp)(ga:Option Addr)(gl gc Bn:Nat)(hG:iS w0 ga gl gs):∀n,gQn w0 gs ga gl gc Bn n:=by
 intro n
 induction n with
 | zero=>intro t v w a b N m hE;exact hE.elim
 | succ n ih=>
  intro t v w a b N m hE hS h ha hb hN hf hm;obtain⟨k,s,ka,kl,kc,ts,rfl,rfl,hl,hz,hk⟩:=hE;obtain⟨hkk,h4,hsub⟩:=hDx hS;rw[gVs] at hN hm;rw[gXr];rcases hkk with rfl | rfl | rfl | rfl | hk4
  ·rw[if_pos rfl]
   exact gXn w0 w Bn N s ka kl kc ga gl gc a b h ha oo (hf.more oo)
  ·rw[if_neg (by decide),if_pos rfl]
   exact gXo w0 w Bn N s ka kl kc ga gl gc gs a b hG h ha oo (hf.more oo)
  ·rw[if_neg (by decide),if_neg (by decide),if_pos rfl]
   exact hCa w0 w Bn n gs ga gl gc ih N s ka kl kc ts a b m hl hz hk hsub h ha hb hN hf hm
  ·rw[if_neg (by decide),if_neg (by decide),if_neg (by decide),if_pos rfl]
   exact hCb w0 w Bn n gs ga gl gc ih N s ka kl kc ts a b m hl hz hk hsub h ha hb hN hf hm
  ·obtain⟨x,rfl⟩:=h4 hk4
   have hsx:=hsub x (List.mem_singleton.2 rfl);(have hsum:uF n [x]=size subs n x:=by unfold uF;simp);rw[hsum] at hN hm;rcases hk4 with rfl | rfl | rfl
   ·rw[if_neg (by decide),if_neg (by decide),if_neg (by decide),if_neg (by decide)]
    exact gSw w0 w Bn n gs ga gl gc ih N s ka kl kc x a b m hl hk hsx h ha hb hN hf hm
   ·rw[if_neg (by decide),if_neg (by decide),if_neg (by decide),if_neg (by decide)]
    exact gSv w0 w Bn n gs ga gl gc ih N s ka kl kc x a b m hl hk hsx h ha hb hN hf hm
   ·rw[if_neg (by decide),if_neg (by decide),if_neg (by decide),if_neg (by decide)]
    exact gSu w0 w Bn n gs ga gl gc ih N s ka kl kc x a b m hl hk hsx h ha hb hN hf hm
end Go.Proofs.YtjkebndkeamijaaGreatDoor
/- NetMade: the document's made: the net of a right tree; rows of truths; how a net is read. -/
namespace Go.Proofs.YtjkebndkeamijaaGreatDoor
open Go.RowKit
def vI (gs:List Grp)(n:Nat)(t:DataW Unit):List gL:=nD gs n t 0 1 tN
theorem k108{p:Prop}(h:p:=by
  unfold tN at hx;rcases wL hx with hx | rfl
  ·rcases wL hx with hx | rfl
   ·simp at hx
   ·exact zzb _
  ·exact zzb _
  ):p:=h
theorem gSq (n:Nat)(t:DataW Unit)(v:Value)(ga:Option Addr)(gl gc:Nat)(gs:List Grp)(w:World)(h:Ex w n t v)(hS:SK gs n t)(hG:iS w ga gl gs)(hsz:size subs n t<=200) :
  Calls Tryz.prog 75 #[v,.slice ga gl gc] w fun e w' => ∃Bn,e=.returned (.pointer (some ⟨Bn,0,none⟩))/\gW w w' Bn (vI gs n t):=by
 obtain⟨k,s,ka,kl,kc,rfl⟩:∃k s a len cap,v=.agg #[.int .i64 k,.string s,.slice a len cap]:=by
  exact k130
 obtain⟨w1,hw1⟩:∃w1,w1=w.alloc (.cells #[.int .i64 k,.string s,.slice ka kl kc] 69):=⟨_,rfl⟩
 have hs1:w1.heap.size=w.heap.size+1:=by rw[hw1];simp
 obtain⟨w2,hw2⟩:∃w2,w2=w1.alloc (.cells #[.slice none 0 0,.slice none 0 0,.slice none 0 0] 153):=⟨_,rfl⟩
 have hB1:Below w.heap.size w w1:=by rw[hw1];exact(zzd _ w).alloc (zzb _) _
 have hB12:Below w1.heap.size w1 w2:=by rw[hw2];exact(zzd _ w1).alloc (zzb _) _
 have hB2:Below w.heap.size w w2:=hB1.trans (hB12.mono hB1.size)
 have hN0:gW w w2 (w.heap.size+1) []:=by
  refine⟨.slice none 0 0,.slice none 0 0,.slice none 0 0,[],[],?_,oo,World.ownsRow_nil ..,World.ownsRow_nil ..,World.ownsRow_nil ..,fun i l hl=>?_,fun i j x y g hi=>?_,fun i x g hi=>?_,fun g e=>?_,fun i l hl=>?_,hB2⟩
  ·rw[hw2,<-hs1];exact World.alloc_heap_new w1 _
  ·simp at hl
  ·simp at hi
  ·simp at hi
  ·cases e
  ·simp at hl
 have HX:Hid (∀X,gM w2 X->X.cell? ⟨w.heap.size,0,none⟩=some (.int .i64 k)/\X.cell? ⟨w.heap.size,1,none⟩=some (.string s)/\X.cell? ⟨w.heap.size,2,none⟩=some (.slice ka kl kc)):=fun X hX=>by
  have hX1:=(gM.of_below hB12).trans hX;rw[hw1] at hX1;obtain⟨a0,a1,a2,_⟩:=tH hX1;exact⟨a0,a1,a2⟩
 have HP1:Hid (Calls Tryz.prog 111 #[.pointer (some ⟨w.heap.size+1,0,none⟩)] w2 fun e w' => e=.returned (.int .i64 0)/\gW w w' (w.heap.size+1) (gI [])/\gM w2 w'):=lN w w2 (w.heap.size+1) [] hN0 (by simp)
 have HP2:Hid (∀X,gW w X (w.heap.size+1) (gI [])->Calls Tryz.prog 111 #[.pointer (some ⟨w.heap.size+1,0,none⟩)] X fun e w' => e=.returned (.int .i64 1)/\gW w w' (w.heap.size+1) tN/\gM X w'):=fun X hX=>lN w X (w.heap.size+1) (gI []) hX (by decide)
 have hfew:lW 0 tN:=fun p x hx=>by
  exact k108
 have HL:Hid (∀X,gW w X (w.heap.size+1) tN->Calls Tryz.prog 112 #[.pointer (some ⟨w.heap.size+1,0,none⟩),.agg #[.int .i64 k,.string s,.slice ka kl kc],.slice ga gl gc,.int .i64 0,.int .i64 1] X fun e w' => e=.returned (.tuple #[])/\gW w w' (w.heap.size+1) (vI gs n t)/\gM X w'):=fun X hX=>gSx w gs ga gl gc (w.heap.size+1) hG n t _ X 0 1 tN 0 h hS hX (by decide) (by decide) (by show 2+_<=_;omega) hfew oo
 have HW2:Hid ((w.alloc (.cells #[.int .i64 k,.string s,.slice ka kl kc] 69)).alloc (.cells #[.slice none 0 0,.slice none 0 0,.slice none 0 0] 153)=w2):=by show _=_;rw[hw2,hw1]
 clear h hS hG hsz hw1 hw2 hs1 hB1 hB12 hB2 hN0 hfew
 go_enter Tryz.func75,Tryz.ntmps75
 go_wp2_with fail
 rw[HW2.out]
 refine HP1.out.mono ?_
 rintro e X1 ⟨rfl,n1,k1⟩
 have C2:=HP2.out X1 n1
 clear HP1 HP2 HW2 n1
 go_wp2_with fail
 refine C2.mono ?_
 rintro e X2 ⟨rfl,n2,k2⟩
 obtain⟨q0,q1,q2⟩:=HX.out X2 (k1.trans k2)
 have C3:=HL.out X2 n2
 clear C2 HL n2 k1 k2
 go_wp2_with fail
 refine C3.mono ?_
 rintro e X3 ⟨rfl,n3,_⟩
 have HE:Hid (gW w X3 (w.heap.size+1) (vI gs n t)):=n3
 clear n3 C3
 go_wp2
 go_ret
 exact⟨_,rfl,HE.out⟩
def IsB (w:World)(b:Nat):Prop:=∃c f,w.heap[b]? = some (.cells c 4 f)
theorem IsB.lt {w:World}{b:Nat}(h:IsB w b):b<w.heap.size:=by
 obtain⟨c,f,h⟩:=h
 exact(zza.1 h).1
theorem IsB.below {w w' : World}{b:Nat}(h:IsB w b)(hb:Below w.heap.size w w'):IsB w' b:=by
 have hl:=h.lt
 obtain⟨c,f,h⟩:=h
 exact⟨c,f,(hb.block _ hl).trans h⟩
def mQ (w:World)(a:Option Addr)(len:Nat)(bs:List Bool):Prop :=
 bs.length=len/\len<=9223372036854775807/\(len=0\/∃b o,a=some ⟨b,o,none⟩/\IsB w b/\∀(i:Nat) (x:Bool),bs[i]? = some x->w.cell? ⟨b,o+i,none⟩=some (.bool x))
theorem mQ.below {w w' : World}{a:Option Addr}{len:Nat}{bs:List Bool}(h:mQ w a len bs)(hb:Below w.heap.size w w'):mQ w' a len bs:=by
 obtain⟨h1,h2,h3⟩:=h
 refine⟨h1,h2,?_⟩
 rcases h3 with h3 | ⟨b,o,e,hlt,hc⟩
 ·exact .inl h3
 ·exact .inr ⟨b,o,e,hlt.below hb,fun i x hx=>(hb.cell (p:=⟨b,o+i,none⟩) hlt.lt).trans (hc i x hx)⟩
theorem mQ.at {w:World}{a:Option Addr}{len:Nat}{bs:List Bool}(h:mQ w a len bs){i:Nat}(hi:i<len):∃b o x,a=some ⟨b,o,none⟩/\bs[i]? = some x/\∀W,Below w.heap.size w W->W.cell? ⟨b,o+i,none⟩=some (.bool x):=by
 obtain⟨h1,h2,h3⟩:=h
 rcases h3 with h3 | ⟨b,o,e,hlt,hc⟩
 ·omega
 ·have hx:bs[i]? = some (bs[i]'(by omega)):=zze oo
  exact⟨b,o,_,e,hx,fun W hW=>(hW.cell (p:=⟨b,o+i,none⟩) hlt.lt).trans (hc i _ hx)⟩
def lV (l:List Bool):List Value:=l.map Value.bool
theorem wN {w:World}{base n:Nat}{v:Value}{bs:List Bool}(h:w.ownsRow base 4 1 v n (lV bs))(hn:n<=9223372036854775807):∃a c,v=.slice a n c/\mQ w a n bs:=by
 have hl:bs.length=n:=by
  have:=h.1
  unfold lV at this;rw[List.length_map] at this;omega
 obtain⟨a,c,rfl⟩:=pI h
 refine⟨a,c,rfl,hl,hn,?_⟩
 rcases Nat.eq_zero_or_pos n with h0 | h0
 ·exact .inl h0
 ·obtain⟨g,cap,e,hc⟩:=gY h h0
  (injection e with e1);subst e1;refine .inr ⟨g,0,rfl,(let ⟨_,cur,hcur⟩:=gC h (g:=g) rfl;⟨cur,_,hcur⟩),fun i x hx=>?_⟩;rw[Nat.zero_add];exact hc i _ (by unfold lV;rw[List.getElem?_map,hx];rfl)
theorem gW.read {w0 W:World}{Bn:Nat}{N:List gL}(h:gW w0 W Bn N)(h0:0<N.length):∃gt ct gb cb gn cn,∀X,Below W.heap.size W X →
  X.cell? ⟨Bn,0,none⟩=some (.slice (some ⟨gt,0,none⟩) N.length ct)/\X.cell? ⟨Bn,1,none⟩=some (.slice (some ⟨gb,0,none⟩) N.length cb)/\X.cell? ⟨Bn,2,none⟩=some (.slice (some ⟨gn,0,none⟩) N.length cn) ∧
  ∀(i:Nat) (x:gL),N[i]? = some x->X.cell? ⟨gn,i,none⟩=some (.int .i64 x.2.2) ∧
   (∃ta tc,X.cell? ⟨gt,i,none⟩=some (.slice ta x.1.length tc)/\∀(k q:Nat),x.1[k]? = some q->∃g,ta=some ⟨g,0,none⟩/\X.cell? ⟨g,k,none⟩=some (.int .i64 (q:Int))) ∧
   (∃ba bc,X.cell? ⟨gb,i,none⟩=some (.slice ba x.2.1.length bc)/\∀(k:Nat) (z:Int),x.2.1[k]? = some z->∃g o,ba=some ⟨g,o,none⟩/\X.cell? ⟨g,o+k,none⟩=some (.int .i64 z)):=by
 obtain⟨tv,bv,nv,ts,bs,h⟩:=h
 obtain⟨gt,ct,ht,hct⟩:=gY h.trow (by rw[List.length_map];omega)
 obtain⟨gb,cb,hb,hcb⟩:=gY h.brow (by rw[List.length_map];omega)
 obtain⟨gn,cn,hn,hcn⟩:=gY h.nrow (by rw[List.length_map];omega)
 rw[List.length_map] at ht hb hn
 subst ht hb hn
 refine⟨gt,ct,gb,cb,gn,cn,fun X hX=>?_⟩
 obtain⟨c0,c1,c2,_⟩:=tE ((hX.block _ h.lts).trans h.blk)
 have lt:=(gC h.trow (g:=gt) rfl).1
 have lb:=(gC h.brow (g:=gb) rfl).1
 have ln:=(gC h.nrow (g:=gn) rfl).1
 refine⟨c0,c1,c2,fun i x hx=>⟨?_,?_,?_⟩⟩
 ·exact(hX.cell (p:=⟨gn,i,none⟩) ln).trans (hcn i _ (by unfold iG;rw[List.getElem?_map,List.getElem?_map,hx];rfl))
 ·obtain⟨v,h1,h2⟩:=h.each i x.1 (by rw[List.getElem?_map,hx];rfl)
  obtain⟨ta,tc,rfl⟩:=pI h2;refine⟨ta,tc,(hX.cell (p:=⟨gt,i,none⟩) lt).trans (hct i _ h1),fun k q hq=>?_⟩;obtain⟨g,cap,e,hc⟩:=gY h2 (by have:=(zzc.1 hq).1;omega);(injection e with e1);subst e1;exact⟨g,rfl,(hX.cell (p:=⟨g,k,none⟩) (gC h2 (g:=g) rfl).1).trans (hc k _ (gAw hq))⟩
 ·obtain⟨ba,bn,bc,h1,h2⟩:=h.byr i x.2.1 (by rw[List.getElem?_map,hx];rfl)
  obtain rfl:x.2.1.length=bn:=h2.1;refine⟨ba,bc,(hX.cell (p:=⟨gb,i,none⟩) lb).trans (hcb i _ h1),fun k z hz=>?_⟩;obtain⟨g,o,y,e1,e2,e3⟩:=h2.at (i:=k) (zzc.1 hz).1;rw[hz] at e2;cases e2;exact⟨g,o,e1,e3 X (h.bel.trans (hX.mono h.bel.size))⟩
end Go.Proofs.YtjkebndkeamijaaGreatDoor
