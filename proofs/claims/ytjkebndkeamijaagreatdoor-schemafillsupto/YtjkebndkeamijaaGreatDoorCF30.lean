/-
  PROVED HERE: what the texts DFHouseT, DFTok, DFRow, DFStk, DFPush, DFPop, DFEq say.
-/
import Derived.Test.YtjkebndkeamijaaGreatDoorCF28
import Derived.Laws.StructEq
set_option maxRecDepth 100000
set_option maxHeartbeats 2000000
namespace Go.Proofs.YtjkebndkeamijaaGreatDoor
open Go.RowKit
def houseW:ByteArray:=⟨#[98,108,111,99,107,43]⟩
def textS:ByteArray:=⟨#[116,101,120,116,42]⟩
def itemS:ByteArray:=⟨#[105,116,101,109,43]⟩
def houseL:List SpecD:=[⟨⟨#[112,97,114,97]⟩,textS,false,7,0,0,false⟩,⟨⟨#[104,101,97,100]⟩,textS,false,7,1,6,false⟩,⟨⟨#[113,117,111,116,101]⟩,houseW,false,0,0,0,false⟩,⟨⟨#[99,111,100,101]⟩,textS,false,0,0,0,true⟩,⟨⟨#[108,105,115,116]⟩,itemS,false,0,0,1,false⟩,⟨⟨#[105,116,101,109]⟩,houseW,false,0,0,0,false⟩,⟨⟨#[114,117,108,101]⟩,⟨#[]⟩,true,0,0,0,false⟩]
def houseG:List Grp:=[(⟨#[98,108,111,99,107]⟩,[1,2,3,4,5,7])]
def rightNB (gs:List Grp):Bool:=(List.range gs.length).all fun i=>match gs[i]? with
 | some x=>letters x.1 && !((gs.take i).any fun y=>y.1.toList==x.1.toList)
 | none=>false
theorem rightN_of {gs:List Grp}(h:rightNB gs=true):RightN gs:=by
 intro i x hx
 have hi:=(zzc.1 hx).1
 have h1:=List.all_eq_true.1 h i (List.mem_range.2 hi)
 rw[hx] at h1
 simp only[Bool.and_eq_true,Bool.not_eq_true'] at h1
 refine⟨h1.1,fun ⟨j,y,h2,h3,h4⟩=>?_⟩
 have:=List.any_eq_false.1 h1.2 y (zzj (i:=j) (by rw[List.getElem?_take,if_pos h2];exact h3))
 exact this h4
theorem house_new:newE houseW houseL houseG=0:=by
 unfold newE
 rw[if_neg (by decide),if_pos ⟨by kernel_rfl,rightN_of kr⟩]
 kernel_rfl
theorem specs_house (w:World)(b:Nat)(f:Nat×Nat)(h:w.heap[b]? = some (.cells #[.string ⟨#[112,97,114,97]⟩,.string ⟨#[116,101,120,116,42]⟩,.bool false,.int .i64 7,.int .i64 0,.int .i64 0,.bool false,.string ⟨#[104,101,97,100]⟩,.string ⟨#[116,101,120,116,42]⟩,.bool false,.int .i64 7,.int .i64 1,.int .i64 6,.bool false,.string ⟨#[113,117,111,116,101]⟩,.string ⟨#[98,108,111,99,107,43]⟩,.bool false,.int .i64 0,.int .i64 0,.int .i64 0,.bool false,.string ⟨#[99,111,100,101]⟩,.string ⟨#[116,101,120,116,42]⟩,.bool false,.int .i64 0,.int .i64 0,.int .i64 0,.bool true,.string ⟨#[108,105,115,116]⟩,.string ⟨#[105,116,101,109,43]⟩,.bool false,.int .i64 0,.int .i64 0,.int .i64 1,.bool false,.string ⟨#[105,116,101,109]⟩,.string ⟨#[98,108,111,99,107,43]⟩,.bool false,.int .i64 0,.int .i64 0,.int .i64 0,.bool false,.string ⟨#[114,117,108,101]⟩,.string ⟨#[]⟩,.bool true,.int .i64 0,.int .i64 0,.int .i64 0,.bool false] 34 f)):Specs w (some ⟨b,0,none⟩) 7 houseL:=by
 have hc:=fun j=>cell_of_row w b j _ _ _ h
 refine⟨rfl,oo,.inr ⟨b,0,rfl,(zza.1 h).1,fun i x hx=>?_⟩⟩
 match i,hx with
 | 0,hx=>cases hx;exact⟨hc 0,hc 1,hc 2,hc 3,hc 4,hc 5,hc 6⟩
 | 1,hx=>cases hx;exact⟨hc 7,hc 8,hc 9,hc 10,hc 11,hc 12,hc 13⟩
 | 2,hx=>cases hx;exact⟨hc 14,hc 15,hc 16,hc 17,hc 18,hc 19,hc 20⟩
 | 3,hx=>cases hx;exact⟨hc 21,hc 22,hc 23,hc 24,hc 25,hc 26,hc 27⟩
 | 4,hx=>cases hx;exact⟨hc 28,hc 29,hc 30,hc 31,hc 32,hc 33,hc 34⟩
 | 5,hx=>cases hx;exact⟨hc 35,hc 36,hc 37,hc 38,hc 39,hc 40,hc 41⟩
 | 6,hx=>cases hx;exact⟨hc 42,hc 43,hc 44,hc 45,hc 46,hc 47,hc 48⟩
 | n+7,hx=>simp[houseL] at hx
theorem housetypes_calls (w:World):Calls Tryz.prog 30 #[] w fun e w' => ∃b,e=.returned (.slice (some ⟨b,0,none⟩) 7 7)/\Specs w' (some ⟨b,0,none⟩) 7 houseL/\Below w.heap.size w w' := by
 have HB:Hid (∀o,Below w.heap.size w (w.alloc o)):=fun o=>(zzd _ w).alloc (zzb _) _
 go_enter Tryz.func30,Tryz.ntmps30
 go_wp2
 go_ret
 exact⟨w.heap.size,rfl,specs_house _ _ _ (World.alloc_heap_new w _),HB.out _⟩
theorem groups_house (w:World)(b b1:Nat)(h:w.heap[b]? = some (.cells #[.string ⟨#[98,108,111,99,107]⟩,.slice (some ⟨b1,0,none⟩) 6 6] 63 (0,0)))(h1:w.heap[b1]? = some (.cells #[.int .i64 1,.int .i64 2,.int .i64 3,.int .i64 4,.int .i64 5,.int .i64 7] 3 (0,0))):Groups w (some ⟨b,0,none⟩) 1 houseG:=by
 have hc:=fun j=>cell_of_row w b j _ _ _ h
 have hd:=fun j=>cell_of_row w b1 j _ _ _ h1
 refine⟨rfl,oo,.inr ⟨b,0,rfl,(zza.1 h).1,fun i x hx=>?_⟩⟩
 match i,hx with
 | 0,hx=>
  cases hx;refine⟨some ⟨b1,0,none⟩,6,6,hc 0,hc 1,rfl,oo,.inr ⟨b1,0,rfl,(zza.1 h1).1,fun k y hy=>?_⟩⟩
  match k,hy with
  | 0,hy=>cases hy;exact hd 0
  | 1,hy=>cases hy;exact hd 1
  | 2,hy=>cases hy;exact hd 2
  | 3,hy=>cases hy;exact hd 3
  | 4,hy=>cases hy;exact hd 4
  | 5,hy=>cases hy;exact hd 5
  | n+6,hy=>simp at hy
 | n+1,hx=>simp[houseG] at hx
theorem housegroups_calls (w:World):Calls Tryz.prog 31 #[] w fun e w' => ∃b,e=.returned (.slice (some ⟨b,0,none⟩) 1 1)/\Groups w' (some ⟨b,0,none⟩) 1 houseG/\Below w.heap.size w w' := by
 have hB1:Below w.heap.size w (w.alloc (.cells #[.int .i64 1,.int .i64 2,.int .i64 3,.int .i64 4,.int .i64 5,.int .i64 7] 3)):=(zzd _ w).alloc (zzb _) _
 have HG:Hid (Groups ((w.alloc (.cells #[.int .i64 1,.int .i64 2,.int .i64 3,.int .i64 4,.int .i64 5,.int .i64 7] 3)).alloc (.cells #[.string ⟨#[98,108,111,99,107]⟩,.slice (some ⟨w.heap.size,0,none⟩) 6 6] 63)) (some ⟨w.heap.size+1,0,none⟩) 1 houseG/\Below w.heap.size w ((w.alloc (.cells #[.int .i64 1,.int .i64 2,.int .i64 3,.int .i64 4,.int .i64 5,.int .i64 7] 3)).alloc (.cells #[.string ⟨#[98,108,111,99,107]⟩,.slice (some ⟨w.heap.size,0,none⟩) 6 6] 63))):=by
  refine⟨groups_house _ _ w.heap.size ?_ ?_,hB1.alloc hB1.size _⟩
  ·have:=World.alloc_heap_new (w.alloc (.cells #[.int .i64 1,.int .i64 2,.int .i64 3,.int .i64 4,.int .i64 5,.int .i64 7] 3)) (.cells #[.string ⟨#[98,108,111,99,107]⟩,.slice (some ⟨w.heap.size,0,none⟩) 6 6] 63)
   rw[World.size_alloc] at this;exact this
  ·exact(zzf _ _ _ (by rw[World.size_alloc];omega)).trans (World.alloc_heap_new w _)
 clear hB1
 go_enter Tryz.func31,Tryz.ntmps31
 go_wp2
 go_ret
 exact⟨w.heap.size+1,rfl,HG.out⟩
theorem house_calls (w:World)(hE:ETy w):Calls Tryz.prog 8 #[] w fun e w' => ∃B,e=.returned (.pointer (some ⟨B,0,none⟩))/\MadeS w' B houseW houseL houseG/\Below w.heap.size w w' := by
 have HT:=Hid.mk_ (housetypes_calls w)
 have HG:Hid (∀X:World,Calls Tryz.prog 31 #[] X fun e w' => ∃b,e=.returned (.slice (some ⟨b,0,none⟩) 1 1)/\Groups w' (some ⟨b,0,none⟩) 1 houseG/\Below X.heap.size X w'):=fun X=>housegroups_calls X
 have HN:Hid (∀(X:World) (b1 b2:Nat),Below w.heap.size w X->Specs X (some ⟨b1,0,none⟩) 7 houseL->Groups X (some ⟨b2,0,none⟩) 1 houseG->Calls Tryz.prog 16 #[.string ⟨#[98,108,111,99,107,43]⟩,.slice (some ⟨b1,0,none⟩) 7 7,.slice (some ⟨b2,0,none⟩) 1 1] X fun e w' => Below X.heap.size X w' /\ ∃B,e=.returned (.tuple #[.pointer (some ⟨B,0,none⟩),.int .i64 0])/\MadeS w' B houseW houseL houseG):=fun X b1 b2 hX h1 h2=>by
  refine(new_calls houseW (some ⟨b1,0,none⟩) 7 7 houseL (some ⟨b2,0,none⟩) 1 1 houseG X (by decide) h1 h2 (by decide) (by decide) (hE.below hX)).mono ?_;rintro e w' ⟨hB,⟨hn,_⟩ | ⟨_,B,rfl,hm⟩⟩
  ·exact absurd house_new hn
  ·exact⟨hB,B,rfl,hm⟩
 clear hE
 go_enter Tryz.func8,Tryz.ntmps8
 go_wp2_with fail
 refine HT.out.mono ?_
 rintro e X1 ⟨b1,rfl,hs1,hB1⟩
 have HS1:Hid (Specs X1 (some ⟨b1,0,none⟩) 7 houseL/\Below w.heap.size w X1):=⟨hs1,hB1⟩
 clear hs1 hB1 HT
 go_wp2_with fail
 refine(HG.out X1).mono ?_
 rintro e X2 ⟨b2,rfl,hg2,hB2⟩
 have hB02:=HS1.out.2.trans (hB2.mono HS1.out.2.size)
 have HN2:=HN.out X2 b1 b2 hB02 (HS1.out.1.below hB2) hg2
 have HB02:=Hid.mk_ hB02
 clear hg2 hB2 hB02 HN HG HS1
 go_wp2_with fail
 refine HN2.mono ?_
 rintro e X3 ⟨hB3,B,rfl,hm⟩
 have HE:Hid (MadeS X3 B houseW houseL houseG/\Below w.heap.size w X3):=⟨hm,HB02.out.trans (hB3.mono HB02.out.size)⟩
 clear hm hB3 HN2
 go_wp2
 go_ret
 exact⟨B,rfl,HE.out⟩
structure Tok where
 k:Int
 t:Int
 n:Int
 m:Int
def tokEq (x y:Tok):Bool:=x.k==y.k&&(x.t==y.t&&(x.n==y.n&&x.m==y.m))
theorem tokEq_iff (x y:Tok):tokEq x y=true↔x=y:=by
 obtain⟨a,b,c,d⟩:=x
 obtain⟨a', b', c', d'⟩:=y
 simp[tokEq]
def tokV (x:Tok):Value:=.agg #[.int .i64 x.k,.int .i64 x.t,.int .i64 x.n,.int .i64 x.m]
def point (n:Int):Bool:=decide (0<=n)&&decide (n<=1114111)&&(decide (n<55296)||decide (57343<n))
def rightM (s:Int):Bool:=decide (0<=s)&&decide (s<=4)
def rightT (x:Tok):Bool :=
 if x.k=0 then x.t==0&&point x.n&&rightM x.m
 else if x.k=1\/x.k=3 then decide (1<=x.t)&&decide (x.t<16)&&decide (0<=x.n)&&decide (x.n<=15)&&x.m==0
 else if x.k=2 then x.t==0&&x.n==0&&x.m==0
 else false
def Toks (w:World)(a:Option Addr)(len:Nat)(l:List Tok):Prop :=
 l.length=len/\(len=0\/∃b o,a=some ⟨b,o,none⟩/\b<w.heap.size/\∀i x,l[i]? = some x->w.cell? ⟨b,o+i * 4,none⟩=some (.int .i64 x.k)/\w.cell? ⟨b,o+i * 4+1,none⟩=some (.int .i64 x.t) ∧
  w.cell? ⟨b,o+i * 4+2,none⟩=some (.int .i64 x.n)/\w.cell? ⟨b,o+i * 4+3,none⟩=some (.int .i64 x.m))
theorem k66{p:Prop}(h:p:=by
  exact⟨(hb.cell (p:=⟨b,_,none⟩) hlt).trans c0,(hb.cell (p:=⟨b,_,none⟩) hlt).trans c1,(hb.cell (p:=⟨b,_,none⟩) hlt).trans c2,(hb.cell (p:=⟨b,_,none⟩) hlt).trans c3⟩
  ):p:=h
theorem Toks.below {w w' : World}{a:Option Addr}{len:Nat}{l:List Tok}(h:Toks w a len l)(hb:Below w.heap.size w w'):Toks w' a len l:=by
 obtain⟨h1,h2⟩:=h
 refine⟨h1,?_⟩
 rcases h2 with h2 | ⟨b,o,rfl,hlt,hc⟩
 ·exact .inl h2
 ·refine .inr ⟨b,o,rfl,zzl hlt hb.size,fun i x hx=>?_⟩
  obtain⟨c0,c1,c2,c3⟩:=hc i x hx;exact k66
def checkL:List Tok->Nat->Int->Int×Int
 | [],i,d=>if 0<d then (i,3) else (i,0)
 | x::r,i,d=>
  if (!rightT x||(x.k==2&&d==0))=true then (i,4)
  else if 32<(if x.k=1 then d+1 else if x.k=2 then d - 1 else d) then (i,8)
  else checkL r (i+1) (if x.k=1 then d+1 else if x.k=2 then d - 1 else d)
def check (l:List Tok):Int×Int:=if 2048<l.length then (0,2) else checkL l 0 0
theorem drop_getD {l:List Tok}{k:Nat}(h:k<l.length):∃x,l[k]? = some x/\l.drop k=x::l.drop (k+1):=⟨l[k],zze h,List.drop_eq_getElem_cons h⟩
theorem Toks.token {w:World}{a:Option Addr}{len:Nat}{l:List Tok}(h:Toks w a len l){k:Nat}(hk:k<len):∃b o x,a=some ⟨b,o,none⟩/\b<w.heap.size/\l[k]? = some x/\∀W:World,Below w.heap.size w W →
  W.cell? ⟨b,o+k * 4,none⟩=some (.int .i64 x.k)/\W.cell? ⟨b,o+k * 4+1,none⟩=some (.int .i64 x.t)/\W.cell? ⟨b,o+k * 4+2,none⟩=some (.int .i64 x.n)/\W.cell? ⟨b,o+k * 4+3,none⟩=some (.int .i64 x.m):=by
 obtain⟨h1,h2 | ⟨b,o,rfl,hlt,hc⟩⟩:=h
 ·omega
 ·have hx:l[k]? = some (l[k]'(by omega)):=zze oo
  refine⟨b,o,_,rfl,hlt,hx,fun W hb=>?_⟩;obtain⟨c0,c1,c2,c3⟩:=hc k _ hx;exact k66
theorem info3:(Tryz.prog.info? 3).map (fun i=>(i.zero,i.size,i.bytes))=some (some (.int .i64 0),1,8):=by kernel_rfl
def Row (k:IntKind)(w:World)(a:Option Addr)(len:Nat)(zs:List Int):Prop :=
 zs.length=len/\(len=0\/∃b o,a=some ⟨b,o,none⟩/\b<w.heap.size/\∀i,i<len->w.cell? ⟨b,o+i,none⟩=some (.int k (zs.getD i 0)))
theorem row_of_owns {W:World}{base:Nat}{e:TypeId}{k:IntKind}{v:Value}{n:Nat}{bs:List Int}(h:W.ownsRow base e 1 v n (bs.map (Value.int k))):∃a cap,v=.slice a n cap/\Row k W a n bs:=by
 obtain⟨hl,⟨h1,h2⟩ | ⟨g,cap,cur,rfl,hb,hg,hc1,hc2,hc3,hc4⟩⟩:=h
 ·subst h2
  exact⟨none,0,h1,by simpa using hl,.inl rfl⟩
 ·have hl' : bs.length=n:=by simpa using hl
  refine⟨_,cap,rfl,hl', ?_⟩;rcases Nat.eq_zero_or_pos n with h0 | h0
  ·exact .inl h0
  ·refine .inr ⟨g,0,rfl,(zza.1 hg).1,fun i hi=>?_⟩
   have:cur.toList[i]? = some (.int k (bs.getD i 0)):=by
    have h2:=congrArg (·[i]?) hc4;simp only[Nat.mul_one] at h2;rw[List.getElem?_take,if_pos hi] at h2;rw[h2,List.getElem?_map,zze oo,List.getD_eq_getElem?_getD,zze oo]
    rfl
   rw[Array.getElem?_toList] at this;simp[World.cell?,hg,this]
theorem owns_shrink {W:World}{base:Nat}{e:TypeId}{v:Value}{n:Nat}{xs:List Int}(h:W.ownsRow base e 1 v (n+1) (xs.map (Value.int .i64))) :
  ∃g cap,v=.slice (some ⟨g,0,none⟩) (n+1) cap/\n+1<=cap/\cap<=maxLen/\W.ownsRow base e 1 (.slice (some ⟨g,0,none⟩) n cap) n (xs.dropLast.map (Value.int .i64)):=by
 obtain⟨hl,⟨_,h2⟩ | ⟨g,cap,cur,rfl,hb,hg,hc1,hc2,hc3,hc4⟩⟩:=h
 ·omega
 ·refine⟨g,cap,rfl,hc1,hc2,?_,.inr ⟨g,cap,cur,rfl,hb,hg,oo,hc2,hc3,?_⟩⟩
  ·simp only[List.length_map,List.length_dropLast] at hl ⊢
   omega
  ·have h3:=congrArg (List.take n) hc4
   rw[List.take_take] at h3;simp only[Nat.mul_one] at h3 ⊢;rw[show min n (n+1)=n from by omega] at h3;simp only[List.length_map,Nat.mul_one] at hl;rw[h3,<-List.map_take,List.dropLast_eq_take,hl]
   rfl
def openL:List Tok->Nat->List Int->List Int
 | [],_,s=>s
 | x::r,i,s=>openL r (i+1) (if x.k=1 then s++[(i:Int)] else if x.k=2 then s.dropLast else s)
def opened (l:List Tok)(at' : Int):List Int:=if at' <= l.length then openL (l.take at'.toNat) 0 [] else []
theorem openL_step {l:List Tok}{k N:Nat}(hk:k<N)(hN:N<=l.length)(s:List Int):∃x,l[k]? = some x/\openL ((l.take N).drop k) k s=openL ((l.take N).drop (k+1)) (k+1) (if x.k=1 then s++[(k:Int)] else if x.k=2 then s.dropLast else s):=by
 refine⟨l[k],zze oo,?_⟩
 rw[List.drop_eq_getElem_cons (l:=l.take N) (i:=k) (by rw[List.length_take];omega),openL]
 simp
theorem dropLast_none {s:List Int}(h:s.length=0):s.dropLast=s:=by rw[List.length_eq_zero_iff.1 h];rfl
theorem Toks.kind {w:World}{a:Option Addr}{len:Nat}{l:List Tok}(h:Toks w a len l){k:Nat}{x:Tok}(hx:l[k]? = some x):∃b o,a=some ⟨b,o,none⟩/\b<w.heap.size/\∀W:World,Below w.heap.size w W->W.cell? ⟨b,o+k * 4,none⟩=some (.int .i64 x.k):=by
 have hk:k<l.length:=(zzc.1 hx).1
 obtain⟨h1,h2 | ⟨b,o,rfl,hlt,hc⟩⟩:=h
 ·omega
 ·exact⟨b,o,rfl,hlt,fun W hW=>(hW.cell (p:=⟨b,_,none⟩) hlt).trans (hc k x hx).1⟩
def turn (x:Tok)(i:Nat)(s:List Int):List Int:=if x.k=1 then s++[(i:Int)] else if x.k=2 then s.dropLast else s
def around (l:List Tok)(p:Int):Int:=(opened l p).getLast?.getD (-1)
def kindAt (l:List Tok)(k:Nat):Int:=(l[k]?.map (·.k)).getD 0
def seek (l:List Tok)(i:Int):Nat->Nat->Int
 | _,0 => -1
 | k,f+1=>if kindAt l k=2/\around l k=i then k else seek l i (k+1) f
def partner (l:List Tok)(i:Int):Int :=
 if i<0\/(l.length:Int)<=i then -1
 else if kindAt l i.toNat=2 then around l i
 else if kindAt l i.toNat=1 then seek l i (i.toNat+1) (l.length - (i.toNat+1))
 else -1
def kidsL (l:List Tok)(i:Int):Nat->Nat->List Int->List Int
 | _,0,out=>out
 | k,f+1,out=>if kindAt l k=2/\around l k=i/\0<=i then out
  else kidsL l i (k+1) f (if kindAt l k≠2/\0<=kindAt l k/\kindAt l k<=3/\around l k=i then out++[(k:Int)] else out)
def kids (l:List Tok)(i:Int):List Int :=
 if i < -1\/(l.length:Int)<=i\/(0<=i/\kindAt l i.toNat≠1) then [] else kidsL l i (i+1).toNat (l.length - (i+1).toNat) []
theorem kindAt_some {l:List Tok}{k:Nat}{x:Tok}(h:l[k]? = some x):kindAt l k=x.k:=by unfold kindAt;rw[h];rfl
theorem Toks.kindAt {w:World}{a:Option Addr}{len:Nat}{l:List Tok}(h:Toks w a len l){k:Nat}(hk:k<len):∃b o,a=some ⟨b,o,none⟩/\b<w.heap.size/\∀W:World,Below w.heap.size w W->W.cell? ⟨b,o+k * 4,none⟩=some (.int .i64 (YtjkebndkeamijaaGreatDoor.kindAt l k)):=by
 obtain⟨x,hx⟩:∃x,l[k]? = some x:=⟨_,zze (by rw[h.1];exact hk)⟩
 rw[kindAt_some hx]
 exact h.kind hx
theorem openL_length (l:List Tok)(i:Nat)(s:List Int):(openL l i s).length<=s.length+l.length:=by
 induction l generalizing i s with
 | nil=>exact zzb _
 | cons t r ih=>
  rw[openL];refine Nat.le_trans (ih _ _) ?_
  split
  ·simp;omega
  ·split<;>simp<;>omega
theorem opened_length (l:List Tok)(p:Int):(opened l p).length<=l.length:=by
 unfold opened
 split
 ·have h:=openL_length (l.take p.toNat) 0 []
  rw[List.length_take,List.length_nil] at h;omega
 ·simp
theorem last_row {R:List Int}{n:Nat}(h:R.length=n+1):R.getLast?.getD (-1)=R.getD n 0:=by
 rw[List.getLast?_eq_getElem?,h,List.getD_eq_getElem?_getD,show n+1 - 1=n from rfl,zze oo]
 rfl
theorem own_below {W W' : World}{base:Nat}{e:TypeId}{v:Value}{n:Nat}{xs:List Value}(h:W.ownsRow base e 1 v n xs)(hB:Below W.heap.size W W')(_hb:base<=W.heap.size):W'.ownsRow base e 1 v n xs:=by
 obtain⟨hl,h1 | ⟨g,cap,cur,rfl,hb,hg,hc1,hc2,hc3,hc4⟩⟩:=h
 ·exact⟨hl,.inl h1⟩
 ·refine⟨hl,.inr ⟨g,cap,cur,rfl,hb,?_,hc1,hc2,hc3,hc4⟩⟩
  rw[hB.block g (zza.1 hg).1,hg]
def StkCells (v:Value)(R:List Int)(cs:Array Value):Prop :=
 cs.size=34/\(∀i,i<32->i<R.length->cs[i]? = some (.int .i64 (R.getD i 0)))/\(∀i,i<32->∃z,cs[i]? = some (.int .i64 z))/\cs[32]? = some v/\cs[33]? = some (.int .i64 (R.length:Int))
def Stk (w:World)(base g:Nat)(v:Value)(R:List Int):Prop :=
 base<=g/\w.ownsRow base 3 1 v (R.length - 32) ((R.drop 32).map (Value.int .i64))/\∃cs,w.heap[g]? = some (.cells cs 111 (0,0))/\StkCells v R cs
structure KeptS (g:Nat) (v:Option Nat) (w w' : World):Prop where
 os:w'.os=w.os
 tape:w'.tape=w.tape
 output:w'.output=w.output
 size:w.heap.size<=w'.heap.size
 block:∀k,k<w.heap.size->k≠g->some k≠v->w'.heap[k]? = w.heap[k]?
theorem KeptS.refl (g:Nat)(v:Option Nat)(w:World):KeptS g v w w:=⟨rfl,rfl,rfl,zzb _,fun _ _ _ _=>rfl⟩
theorem KeptS.drew {g:Nat}{v:Option Nat}{w w' : World}(h:KeptS g v w w'):KeptS g v w w'.drew:=⟨h.os,h.tape,h.output,h.size,h.block⟩
theorem KeptS.alloc {g:Nat}{v:Option Nat}{w w' : World}(h:KeptS g v w w')(o:Obj):KeptS g v w (w'.alloc o) :=
 ⟨h.os,h.tape,h.output,by have:=h.size;simp;omega,fun k h1 h2 h3=>(zzf w' o k (zzl h1 h.size)).trans (h.block k h1 h2 h3)⟩
theorem KeptS.setCell {g:Nat}{v:Option Nat}{w w' : World}(h:KeptS g v w w')(j:Nat)(u:Value):KeptS g v w (w'.setCell ⟨g,j,none⟩ u) :=
 ⟨h.os,h.tape,h.output,by simpa using h.size,fun k h1 h2 h3=>(zzh w' _ u k h2).trans (h.block k h1 h2 h3)⟩
theorem KeptS.below {g:Nat}{v:Option Nat}{w w' : World}(h:KeptS g v w w'){base:Nat}(hg:base<=g)(hv:∀k,v=some k->base<=k)(hb:base<=w.heap.size):Below base w w' :=
 ⟨h.os,h.tape,h.output,h.size,fun k hk=>h.block k oo oo (fun e=>by have:=hv k e.symm;omega)⟩
theorem own_base {w:World}{base:Nat}{e:TypeId}{v:Value}{n:Nat}{xs:List Value}(h:w.ownsRow base e 1 v n xs):∀k,v.ownBlock=some k->base<=k/\k<w.heap.size/\∃cur,w.heap[k]? = some (.cells cur e (0,0)):=by
 intro k hk
 rcases h.2 with ⟨rfl,_⟩ | ⟨g,cap,cur,rfl,hb,hg,_⟩
 ·simp[Value.ownBlock] at hk
 ·obtain rfl:g=k:=by simpa [Value.ownBlock] using hk
  exact⟨hb,(zza.1 hg).1,cur,hg⟩
theorem Stk.apart {w:World}{base g:Nat}{v:Value}{R:List Int}(h:Stk w base g v R):v.ownBlock≠some g:=by
 intro e
 obtain⟨_,h2,cs,h3,_⟩:=h
 obtain⟨_,_,cur,h4⟩:=own_base h2 g e
 rw[h3] at h4
 have:=(Obj.cells.inj (zzo h4)).2.1
 exact absurd this (by decide)
theorem own_set {w:World}{base:Nat}{e:TypeId}{v:Value}{n:Nat}{xs:List Value}(h:w.ownsRow base e 1 v n xs)(g j:Nat)(u:Value)(hg:v.ownBlock≠some g):(w.setCell ⟨g,j,none⟩ u).ownsRow base e 1 v n xs:=by
 obtain⟨h1,h2 | ⟨b,cap,cur,rfl,hb,hc,h3⟩⟩:=h
 ·exact⟨h1,.inl h2⟩
 ·refine⟨h1,.inr ⟨b,cap,cur,rfl,hb,?_,h3⟩⟩
  rw[zzh w _ u b (by intro e;exact hg (by simp[Value.ownBlock,e]))];exact hc
theorem Stk.cells {w:World}{base g:Nat}{v:Value}{R:List Int}(h:Stk w base g v R):w.cell? ⟨g,32,none⟩=some v/\w.cell? ⟨g,33,none⟩=some (.int .i64 (R.length:Int))/\(∀i,i<32->∃z,w.cell? ⟨g,i,none⟩=some (.int .i64 z))/\(∀i,i<32->i<R.length->w.cell? ⟨g,i,none⟩=some (.int .i64 (R.getD i 0)))/\(∀i,w.frozen? ⟨g,i,none⟩=false)/\g<w.heap.size:=by
 obtain⟨_,_,cs,hg,h0,h1,h2,h3,h4⟩:=h
 have hc:=fun j=>cell_of_row w g j cs _ _ hg
 refine⟨(hc 32).trans h3,(hc 33).trans h4,fun i hi=>?_,fun i hi hr=>(hc i).trans (h1 i hi hr),fun i=>?_,(zza.1 hg).1⟩
 ·obtain⟨z,hz⟩:=h2 i hi
  exact⟨z,(hc i).trans hz⟩
 ·simp[World.frozen?,hg]
theorem Stk.drew {w:World}{base g:Nat}{v:Value}{R:List Int}(h:Stk w base g v R):Stk w.drew base g v R:=h
theorem k121{p:Prop}(h:p:=by
  rw[List.getD_eq_getElem?_getD,List.getD_eq_getElem?_getD,List.getElem?_append_left oo]
  ):p:=h
theorem stk_low {w:World}{base g:Nat}{v:Value}{R:List Int}{p:Int}(h:Stk w base g v R)(hR:R.length<32)(w' : World)
  (hw:w' = (w.setCell ⟨g,R.length,none⟩ (.int .i64 p)).setCell ⟨g,33,none⟩ (.int .i64 ((R.length:Int)+1))):Stk w' base g v (R++[p]):=by
 subst hw
 have hap:=h.apart
 obtain⟨h0,h1,cs,hg,c0,c1,c2,c3,c4⟩:=h
 refine⟨h0,?_,(cs.setIfInBounds R.length (.int .i64 p)).setIfInBounds 33 (.int .i64 ((R.length:Int)+1)),?_,?_⟩
 ·rw[show (R++[p]).length - 32=R.length - 32 from by simp;omega,show (R++[p]).drop 32=R.drop 32 from by rw[List.drop_eq_nil_of_le (by simp;omega),List.drop_eq_nil_of_le oo]]
  exact own_set (own_set h1 _ _ _ hap) _ _ _ hap
 ·exact heap_setCell_same _ g 33 _ _ _ (heap_setCell_same _ g R.length _ _ _ hg)
 ·refine⟨by simpa using c0,fun i hi hr=>?_,fun i hi=>?_,?_,?_⟩
  ·rw[Array.getElem?_setIfInBounds_ne oo]
   by_cases e:i=R.length
   ·subst e
    rw[Array.getElem?_setIfInBounds_self_of_lt oo]
    simp
   ·rw[Array.getElem?_setIfInBounds_ne oo,c1 i hi (by simp at hr;omega)]
    simp at hr;exact k121
  ·rw[Array.getElem?_setIfInBounds_ne oo]
   by_cases e:R.length=i
   ·subst e
    exact⟨p,Array.getElem?_setIfInBounds_self_of_lt oo⟩
   ·rw[Array.getElem?_setIfInBounds_ne e]
    exact c2 i hi
  ·rw[Array.getElem?_setIfInBounds_ne oo,Array.getElem?_setIfInBounds_ne oo,c3]
  ·rw[Array.getElem?_setIfInBounds_self_of_lt (by simp;omega)]
   simp
theorem fpush_low (base g:Nat)(v:Value)(R:List Int)(p:Int)(w:World)(h:Stk w base g v R)(hR:R.length<32) :
  Calls Tryz.prog 103 #[.pointer (some ⟨g,0,none⟩),.int .i64 p] w fun e w' => e=.returned (.tuple #[])/\Stk w' base g v (R++[p])/\KeptS g v.ownBlock w w' := by
 have HS:Hid (∀w' : World,w' = (w.setCell ⟨g,R.length,none⟩ (.int .i64 p)).setCell ⟨g,33,none⟩ (.int .i64 ((R.length:Int)+1))->Stk w' base g v (R++[p])):=fun w' hw=>stk_low h hR w' hw
 obtain⟨c1,c2,c3,c4,f,hg⟩:=h.cells
 obtain⟨z,hz⟩:=c3 R.length hR
 have fn:=f R.length
 have f33:=f 33
 clear c1 c3 c4 f h
 generalize R++[p]=R' at *
 generalize R.length=n at *
 go_enter Tryz.func103,Tryz.ntmps103
 go_wp2
 go_region
 go_wp2
 go_end0
 exact⟨rfl,Stk.drew (HS.out _ rfl),(((KeptS.refl _ _ w).setCell _ _).setCell _ _).drew⟩
theorem cell_alloc_keep {w:World}{a:Addr}{v:Value}{o:Obj}(h:w.cell? a=some v):(w.alloc o).cell? a=some v:=by
 have hlt:a.block<w.heap.size:=by
  rcases Nat.lt_or_ge a.block w.heap.size with h1 | h1
  ·exact h1
  ·simp[World.cell?,Array.getElem?_eq_none h1] at h
 rw[zzi (w:=w) (zzf w o a.block hlt)]
 exact h
theorem grown_frozen {w w2:World}{o:Obj}{row:Option Nat}{a:Addr}(h:(w.alloc o).grownBy w2 row)(hlt:a.block<w.heap.size)(hne:some a.block≠row):w2.frozen? a=w.frozen? a :=
 World.frozen?_of_block (w:=w) ((h.block a.block (by simp;omega) hne).trans (zzf w o a.block hlt))
theorem own_slice {w:World}{base:Nat}{e:TypeId}{v:Value}{n:Nat}{xs:List Value}(h:w.ownsRow base e 1 v n xs):∃a cap,v=.slice a n cap:=by
 rcases h.2 with ⟨rfl,rfl⟩ | ⟨g,cap,cur,rfl,_⟩
 ·exact⟨_,_,rfl⟩
 ·exact⟨_,_,rfl⟩
theorem k110{p:Prop}(h:p:=by
  rw[Array.getElem?_setIfInBounds_ne oo,Array.getElem?_setIfInBounds_ne oo];exact c2 i hi
  ):p:=h
theorem stk_high {w:World}{base g:Nat}{v v' : Value}{R:List Int}{p:Int}(h:Stk w base g v R)(hR:32<=R.length){w2 w' : World}{o:Obj}(hown:w2.ownsRow base 3 1 v' (R.length - 32+1) ((R.drop 32).map (Value.int .i64)++[.int .i64 p]))(hgrow:(w.alloc o).grownBy w2 v.ownBlock)
  (hat:v'.ownBlock=v.ownBlock\/v'.ownBlock=some (w.alloc o).heap.size)
  (hw:w' = (w2.setCell ⟨g,32,none⟩ v').setCell ⟨g,33,none⟩ (.int .i64 ((R.length:Int)+1))):Stk w' base g v' (R++[p])/\KeptS g v.ownBlock w w' /\ (v'.ownBlock=v.ownBlock\/∀k,v'.ownBlock=some k->w.heap.size<=k):=by
 subst hw
 have hap:=h.apart
 have hgs:=h.cells.2.2.2.2.2
 have hap2:v'.ownBlock≠some g:=by
  rcases hat with e | e
  ·rw[e];exact hap
  ·rw[e];simp;omega
 obtain⟨h0,h1,cs,hg,c0,c1,c2,c3,c4⟩:=h
 have hg2:w2.heap[g]? = some (.cells cs 111 (0,0)):=by
  rw[hgrow.block g (by simp;omega) (fun e=>hap e.symm),zzf w o g hgs];exact hg
 have hK:KeptS g v.ownBlock w w2:=⟨hgrow.os,hgrow.tape,hgrow.output,by have:=hgrow.size;simp at this;omega,fun k h1 h2 h3=>by
  rw[hgrow.block k (by simp;omega) h3,zzf w o k h1]⟩
 refine⟨⟨h0,?_,(cs.setIfInBounds 32 v').setIfInBounds 33 (.int .i64 ((R.length:Int)+1)),?_,?_⟩,(hK.setCell _ _).setCell _ _,?_⟩
 ·rw[show (R++[p]).length - 32=R.length - 32+1 from by simp;omega,List.drop_append_of_le_length hR,List.map_append]
  exact own_set (own_set hown _ _ _ hap2) _ _ _ hap2
 ·exact heap_setCell_same _ g 33 _ _ _ (heap_setCell_same _ g 32 _ _ _ hg2)
 ·refine⟨by simpa using c0,fun i hi hr=>?_,fun i hi=>?_,?_,?_⟩
  ·rw[Array.getElem?_setIfInBounds_ne oo,Array.getElem?_setIfInBounds_ne oo,c1 i hi oo]
   exact k121
  ·exact k110
  ·rw[Array.getElem?_setIfInBounds_ne oo,Array.getElem?_setIfInBounds_self_of_lt oo]
  ·rw[Array.getElem?_setIfInBounds_self_of_lt (by simp;omega)]
   simp
 ·rcases hat with e | e
  ·exact .inl e
  ·refine .inr fun k hk=>?_
   rw[e] at hk;simp at hk;omega
theorem fpush_high (base g:Nat)(v:Value)(R:List Int)(p:Int)(w:World)(h:Stk w base g v R)(hb:base<=w.heap.size)(hR:32<=R.length)(hR2:R.length<=4398046511104) :
  Calls Tryz.prog 103 #[.pointer (some ⟨g,0,none⟩),.int .i64 p] w fun e w' => e=.returned (.tuple #[])/\∃v', Stk w' base g v' (R++[p])/\KeptS g v.ownBlock w w' /\ (v'.ownBlock=v.ownBlock\/∀k,v'.ownBlock=some k->w.heap.size<=k):=by
 obtain⟨i0,hi,hz0,hz1,hz2⟩:=info_parts info3
 have HS:Hid (∀(v' : Value) (o:Obj) (w2 w' : World),w2.ownsRow base 3 1 v' (R.length - 32+1) ((R.drop 32).map (Value.int .i64)++[.int .i64 p])->(w.alloc o).grownBy w2 v.ownBlock->(v'.ownBlock=v.ownBlock\/v'.ownBlock=some (w.alloc o).heap.size) →
  w' = (w2.setCell ⟨g,32,none⟩ v').setCell ⟨g,33,none⟩ (.int .i64 ((R.length:Int)+1))->Stk w' base g v' (R++[p])/\KeptS g v.ownBlock w w' /\ (v'.ownBlock=v.ownBlock\/∀k,v'.ownBlock=some k->w.heap.size<=k)):=fun v' o w2 w' a1 a2 a3 a4=>stk_high h hR a1 a2 a3 a4
 obtain⟨c1,c2,c3,c4,f,hg⟩:=h.cells
 have f32:=f 32
 have f33:=f 33
 have hap:=h.apart
 have hown:=h.2.1
 have hlen:(((R.drop 32).map (Value.int .i64)).length=R.length - 32):=by simp
 clear c3 c4 f h
 generalize R++[p]=R' at *
 generalize hn:R.length=n at *
 generalize hX:(R.drop 32).map (Value.int .i64)=X at *
 clear hX hn
 obtain⟨m,rfl⟩:∃m,n=m+32:=⟨n - 32,oo⟩
 rw[show m+32 - 32=m from by omega] at *
 go_enter Tryz.func103,Tryz.ntmps103
 go_wp2_with (at_builtin;refine wpList_append_own_at _ rfl _ _ 61 rfl base 3 i0 (.int .i64 0) 1 8 Tryz.underlying61 hi hz0 hz1 hz2 rfl (by decide) _ _ _ rfl (hown.alloc _) ⟨w.heap.size,0,none⟩ 1 1 [.int .i64 p] rfl rfl (cell_one_new _ _ _) (by simp[Value.oneCell']) (by unfold maxLen;omega) oo (by simp;omega) ?_;intro v2 w2 hown2 hgrow hnil2 hat;have d1:w2.cell? ⟨g,32,none⟩=some v:=hgrow.cell (a:=⟨g,32,none⟩) ((cell_alloc_keep c1)) (fun e=>hap e.symm);have d2:w2.cell? ⟨g,33,none⟩=some (.int .i64 ((m+32:Nat):Int)):=hgrow.cell (a:=⟨g,33,none⟩) ((cell_alloc_keep c2)) (fun e=>hap e.symm);have d3:w2.frozen? ⟨g,32,none⟩=false:=(grown_frozen (a:=⟨g,32,none⟩) hgrow hg (fun e=>hap e.symm)).trans f32;have d4:w2.frozen? ⟨g,33,none⟩=false:=(grown_frozen (a:=⟨g,33,none⟩) hgrow hg (fun e=>hap e.symm)).trans f33;obtain⟨a2,cap2,rfl⟩:=own_slice hown2)
 go_end0
 exact⟨rfl,_,HS.out _ _ _ _ hown2 hgrow hat rfl⟩
theorem KeptS.trans {g:Nat}{v:Option Nat}{a b c:World}(h:KeptS g v a b)(k:KeptS g v b c):KeptS g v a c :=
 ⟨k.os.trans h.os,k.tape.trans h.tape,k.output.trans h.output,Nat.le_trans h.size k.size,fun i h1 h2 h3=>(k.block i (zzl h1 h.size) h2 h3).trans (h.block i h1 h2 h3)⟩
theorem Stk.alloc {w:World}{base g:Nat}{v:Value}{R:List Int}(h:Stk w base g v R)(o:Obj):Stk (w.alloc o) base g v R:=by
 have hlt:=h.cells.2.2.2.2.2
 obtain⟨h0,h1,cs,hg,hc⟩:=h
 refine⟨h0,h1.alloc o,cs,?_,hc⟩
 rw[zzf w o g hlt]
 exact hg
theorem dropLast_getD {R:List Int}{i:Nat}(h:i<R.dropLast.length):R.dropLast.getD i 0=R.getD i 0:=by
 simp only[List.length_dropLast] at h
 rw[List.getD_eq_getElem?_getD,List.getD_eq_getElem?_getD,List.getElem?_dropLast,if_pos h]
theorem dropLast_drop (R:List Int)(h:32<=R.length):(R.dropLast).drop 32=(R.drop 32).dropLast:=by
 simp[List.dropLast_eq_take,List.drop_take]
 omega
theorem stk_pop_low {w:World}{base g:Nat}{v:Value}{R:List Int}(h:Stk w base g v R)(h0:0<R.length)(hR:R.length<=32)(w' : World)
  (hw:w' = w.setCell ⟨g,33,none⟩ (.int .i64 ((R.length:Int) - 1))):Stk w' base g v R.dropLast:=by
 subst hw
 have hap:=h.apart
 obtain⟨g0,h1,cs,hg,c0,c1,c2,c3,c4⟩:=h
 refine⟨g0,?_,cs.setIfInBounds 33 (.int .i64 ((R.length:Int) - 1)),heap_setCell_same _ g 33 _ _ _ hg,by simpa using c0,fun i hi hr=>?_,fun i hi=>?_,?_,?_⟩
 ·rw[show R.dropLast.length - 32=R.length - 32 from by simp;omega,show R.dropLast.drop 32=R.drop 32 from by rw[List.drop_eq_nil_of_le (by simp;omega),List.drop_eq_nil_of_le oo]]
  exact own_set h1 _ _ _ hap
 ·rw[Array.getElem?_setIfInBounds_ne oo,dropLast_getD hr]
  exact c1 i hi (by simp at hr;omega)
 ·rw[Array.getElem?_setIfInBounds_ne oo]
  exact c2 i hi
 ·rw[Array.getElem?_setIfInBounds_ne oo,c3]
 ·rw[Array.getElem?_setIfInBounds_self_of_lt oo,List.length_dropLast]
  simp
  omega
theorem stk_pop_high {w:World}{base g:Nat}{v:Value}{R:List Int}(h:Stk w base g v R){m:Nat}(hR:R.length=m+33) :
  ∃b cap,v=.slice (some ⟨b,0,none⟩) (m+1) cap/\m+1<=cap/\cap<=maxLen/\∀w' : World,w' = (w.setCell ⟨g,33,none⟩ (.int .i64 ((m+33:Nat) - 1:Int))).setCell ⟨g,32,none⟩ (.slice (some ⟨b,0,none⟩) m cap)->Stk w' base g (.slice (some ⟨b,0,none⟩) m cap) R.dropLast:=by
 have hap:=h.apart
 obtain⟨g0,h1,cs,hg,c0,c1,c2,c3,c4⟩:=h
 rw[hR,show m+33 - 32=m+1 from by omega] at h1
 obtain⟨b,cap,rfl,k1,k2,k3⟩:=owns_shrink h1
 refine⟨b,cap,rfl,k1,k2,fun w' hw=>?_⟩
 subst hw
 have hap2:(Value.slice (some ⟨b,0,none⟩) m cap).ownBlock≠some g:=hap
 refine⟨g0,?_,(cs.setIfInBounds 33 (.int .i64 ((m+33:Nat) - 1:Int))).setIfInBounds 32 (.slice (some ⟨b,0,none⟩) m cap),heap_setCell_same _ g 32 _ _ _ (heap_setCell_same _ g 33 _ _ _ hg),by simpa using c0,fun i hi hr=>?_,fun i hi=>?_,?_,?_⟩
 ·rw[List.length_dropLast,hR,show m+33 - 1 - 32=m from by omega,dropLast_drop R oo]
  exact own_set (own_set k3 _ _ _ hap2) _ _ _ hap2
 ·rw[Array.getElem?_setIfInBounds_ne oo,Array.getElem?_setIfInBounds_ne oo,dropLast_getD hr]
  exact c1 i hi (by simp at hr;omega)
 ·exact k110
 ·rw[Array.getElem?_setIfInBounds_self_of_lt (by simp;omega)]
 ·rw[Array.getElem?_setIfInBounds_ne oo,Array.getElem?_setIfInBounds_self_of_lt oo,List.length_dropLast,hR]
  simp
  omega
theorem fpop_calls (base g:Nat)(v:Value)(R:List Int)(w:World)(h:Stk w base g v R)(hR2:R.length<=4398046511104) :
  Calls Tryz.prog 104 #[.pointer (some ⟨g,0,none⟩)] w fun e w' => e=.returned (.tuple #[])/\∃v', Stk w' base g v' R.dropLast/\KeptS g v.ownBlock w w' /\ v'.ownBlock=v.ownBlock:=by
 obtain⟨c1,c2,c3,c4,f,hg⟩:=h.cells
 have f32:=f 32
 have f33:=f 33
 clear c3 c4 f
 by_cases h0:R.length=0
 ·have HS:Hid (Stk w base g v R.dropLast):=by show Stk w base g v R.dropLast;rw[dropLast_none h0];exact h
  rw[h0] at c2;clear c1 h hR2;generalize R.dropLast=R' at *;go_enter Tryz.func104,Tryz.ntmps104;go_wp2;refine bodyPost_ret (results_none (by rfl) _ _ _) rfl ?_;exact⟨rfl,v,HS.out,KeptS.refl _ _ _,rfl⟩
 by_cases h1:R.length<=32
 ·have HS:Hid (∀w' : World,w' = w.setCell ⟨g,33,none⟩ (.int .i64 ((R.length:Int) - 1))->Stk w' base g v R.dropLast):=fun w' hw=>stk_pop_low h oo h1 w' hw
  clear c1 h hR2;generalize R.dropLast=R' at *;generalize R.length=n at *;(have e0:((n:Int)==0)=false:=by simpa using h0);go_enter Tryz.func104,Tryz.ntmps104;go_wp2
  go_end0
  exact⟨rfl,v,HS.out _ rfl,(KeptS.refl _ _ _).setCell _ _,rfl⟩
 ·obtain⟨m,hm⟩:∃m,R.length=m+33:=⟨R.length - 33,oo⟩
  obtain⟨b,cap,rfl,k1,k2,k3⟩:=stk_pop_high h hm;(have HS:Hid (∀w' : World,w' = (w.setCell ⟨g,33,none⟩ (.int .i64 ((m:Int)+33 - 1))).setCell ⟨g,32,none⟩ (.slice (some ⟨b,0,none⟩) m cap)->Stk w' base g (.slice (some ⟨b,0,none⟩) m cap) R.dropLast):=fun w' hw=>k3 w' (by rw[hw];simp));rw[hm] at c2 hR2;unfold maxLen at k2;clear k3 h h0 h1 hm;generalize R.dropLast=R' at *;(have e0:(((m+33:Nat):Int)==0)=false:=by simp;omega);go_enter Tryz.func104,Tryz.ntmps104;go_wp2
  go_region
  go_wp2
  go_end0
  exact⟨rfl,_,Stk.drew (HS.out _ rfl),(((KeptS.refl _ _ w).setCell _ _).setCell _ _).drew,rfl⟩
theorem k77{p:Prop}(h:p:=by
  go_enter Tryz.func78,Tryz.ntmps78;go_wp2_with fail
  go_quiet (fail)
  go_wp2;go_ret;exact⟨rfl,_,rfl⟩
  ):p:=h
theorem ftop_calls (base g:Nat)(v:Value)(R:List Int)(w:World)(h:Stk w base g v R)(hR2:R.length<=4398046511104) :
  Calls Tryz.prog 78 #[.pointer (some ⟨g,0,none⟩)] w fun e w' => e=.returned (.int .i64 (R.getLast?.getD (-1)))/\∃q,w' = w.drewN q:=by
 obtain⟨c1,c2,c3,c4,f,hg⟩:=h.cells
 clear f c3
 rcases Nat.eq_zero_or_pos R.length with h0 | h0
 ·obtain rfl:R=[]:=List.length_eq_zero_iff.1 h0
  clear c1 c4 h h0;simp only[List.length_nil] at c2;go_enter Tryz.func78,Tryz.ntmps78;go_wp2;go_ret;exact⟨rfl,0,rfl⟩
 obtain⟨m,hm⟩:∃m,R.length=m+1:=⟨R.length - 1,oo⟩
 rw[last_row hm]
 rw[hm] at c2
 have e0:(((m+1:Nat):Int)==0)=false:=by simp;omega
 by_cases h1:m<32
 ·have c5:=c4 m h1 oo
  clear c1 c4 h h0;generalize R.getD m 0=y at *;clear hm hR2;exact k77
 ·obtain⟨k,rfl⟩:∃k,m=k+32:=⟨m - 32,oo⟩
  have hown:=h.2.1;rw[hm,show k+32+1 - 32=k+1 from by omega] at hown;obtain⟨a', cap', rfl,hr⟩:=row_of_owns hown
  obtain⟨b,o,rfl,hbl,hc⟩:=(show ∃b o,a' = some ⟨b,o,none⟩/\b<w.heap.size/\∀i,i<k+1->w.cell? ⟨b,o+i,none⟩=some (.int .i64 ((R.drop 32).getD i 0)) from by
   rcases hr.2 with h | h
   ·omega
   ·exact h)
  have hc0:=hc k oo;rw[show (R.drop 32).getD k 0=R.getD (k+32) 0 from by rw[List.getD_eq_getElem?_getD,List.getD_eq_getElem?_getD,List.getElem?_drop,Nat.add_comm]] at hc0;clear hc hr hown c4 h h0 h1;generalize R.getD (k+32) 0=y at *;rw[hm] at hR2;clear hm;exact k77
theorem fpass_calls (base g:Nat)(v:Value)(R:List Int)(i:Nat)(x:Tok)(w:World)(h:Stk w base g v R)(hb:base<=w.heap.size)(hR2:R.length<=4398046511104) :
  Calls Tryz.prog 69 #[.pointer (some ⟨g,0,none⟩),.int .i64 (i:Int),tokV x] w fun e w' => e=.returned (.tuple #[])/\∃v', Stk w' base g v' (turn x i R)/\KeptS g v.ownBlock w w' /\ (v'.ownBlock=v.ownBlock\/∀k,v'.ownBlock=some k->w.heap.size<=k):=by
 obtain⟨xk,xt,xn,xm⟩:=x
 unfold turn
 simp only[tokV]
 have hal:∀o,Stk (w.alloc o) base g v R:=fun o=>h.alloc o
 have hK:∀o W,KeptS g v.ownBlock (w.alloc o) W->KeptS g v.ownBlock w W:=fun o W k=>(KeptS.trans ((KeptS.refl _ _ w).alloc o) k)
 have hF:∀(o:Obj) (v' : Value),(v'.ownBlock=v.ownBlock\/∀k,v'.ownBlock=some k->(w.alloc o).heap.size<=k)->(v'.ownBlock=v.ownBlock\/∀k,v'.ownBlock=some k->w.heap.size<=k):=by
  intro o v' hv;rcases hv with hv | hv
  ·exact .inl hv
  ·refine .inr fun k hk=>?_
   have:=hv k hk
   simp at this;omega
 by_cases k1:xk=1
 ·subst k1
  rw[if_pos rfl]
  have hp:Hid (∀o,Calls Tryz.prog 103 #[.pointer (some ⟨g,0,none⟩),.int .i64 (i:Int)] (w.alloc o) fun e w' => e=.returned (.tuple #[])/\∃v', Stk w' base g v' (R++[(i:Int)])/\KeptS g v.ownBlock (w.alloc o) w' /\ (v'.ownBlock=v.ownBlock\/∀k,v'.ownBlock=some k->(w.alloc o).heap.size<=k)):=by
   intro o
   by_cases hR:R.length<32
   ·refine(fpush_low base g v R i _ (hal o) hR).mono ?_
    rintro e w' ⟨e1,e2,e3⟩;exact⟨e1,v,e2,e3,.inl rfl⟩
   ·exact fpush_high base g v R i _ (hal o) (by simp;omega) oo hR2
  clear hal h;generalize R++[(i:Int)]=R' at *;go_enter Tryz.func69,Tryz.ntmps69;(go_wp2_with fail);refine(hp.out _).mono ?_;rintro e W ⟨rfl,v', s1,s2,s3⟩;go_wp2
  go_end0
  exact⟨rfl,v', s1,hK _ _ s2,hF _ _ s3⟩
 ·have e1:(xk==1)=false:=by simpa using k1
  rw[if_neg k1]
  by_cases k2:xk=2
  ·subst k2
   rw[if_pos rfl];(have hp:Hid (∀o,Calls Tryz.prog 104 #[.pointer (some ⟨g,0,none⟩)] (w.alloc o) fun e w' => e=.returned (.tuple #[])/\∃v', Stk w' base g v' R.dropLast/\KeptS g v.ownBlock (w.alloc o) w' /\ v'.ownBlock=v.ownBlock):=fun o=>fpop_calls base g v R _ (hal o) hR2);clear hal h;generalize R.dropLast=R' at *;go_enter Tryz.func69,Tryz.ntmps69;(go_wp2_with fail);refine(hp.out _).mono ?_;rintro e W ⟨rfl,v', s1,s2,s3⟩;go_wp2
   go_end0
   exact⟨rfl,v', s1,hK _ _ s2,.inl s3⟩
  ·have e2:(xk==2)=false:=by simpa using k2
   rw[if_neg k2];go_enter Tryz.func69,Tryz.ntmps69;go_wp2
   go_end0
   exact⟨rfl,v,hal _,(KeptS.refl _ _ w).alloc _,.inl rfl⟩
theorem tok_eqGuard (op:BinOp)(x y:Operand)(xs ys:Array Value)(W:World):(eqGuard op 58 x y (.agg xs) (.agg ys)).run Tryz.prog W=.ok () W:=run_eqGuard_agg W op 58 x y xs ys kr
theorem tok_equal (x y:Tok)(W:World):(Op.equalIn 10000 58 (tokV x) (tokV y)).run Tryz.prog W=.ok (tokEq x y) W:=by
 have u3:=Tryz.underlying3
 have a3:=Tryz.isAgg3
 have z3:=Tryz.sizeOf3
 have hS:Tryz.prog.underlying 58=some (.struct (Tryz.prog.fieldsOf 58)):=by kernel_rfl
 have hp:Tryz.prog.stoodInHeld 58=false:=by kernel_rfl
 obtain⟨k,t,n,m⟩:=x
 obtain⟨k', t', n', m'⟩:=y
 simp only[tokV]
 rw[show (10000:Nat)=9999+1 from rfl,run_equalIn_agg W 9999 58 _ _ hS hp]
 simp only[Program.fieldsOf,Tryz.underlying58]
 go_simp
 unfold tokEq
 by_cases h1:k=k' <;> by_cases h2:t=t' <;> by_cases h3:n=n' <;> by_cases h4:m=m' <;> simp[h1,h2,h3,h4]
theorem tok_neq (x y:Tok)(W:World):(binOp .neq 58 (tokV x) (tokV y)).run Tryz.prog W=.ok (.bool (!tokEq x y)) W:=by
 rw[show tokV x=.agg #[.int .i64 x.k,.int .i64 x.t,.int .i64 x.n,.int .i64 x.m] from rfl,show tokV y=.agg #[.int .i64 y.k,.int .i64 y.t,.int .i64 y.n,.int .i64 y.m] from rfl,run_neq_struct]
 have h:=tok_equal x y W
 simp only[tokV] at h
 rw[h]
 rfl
theorem tok_eql (x y:Tok)(W:World):(binOp .eql 58 (tokV x) (tokV y)).run Tryz.prog W=.ok (.bool (tokEq x y)) W:=by
 rw[show tokV x=.agg #[.int .i64 x.k,.int .i64 x.t,.int .i64 x.n,.int .i64 x.m] from rfl,show tokV y=.agg #[.int .i64 y.k,.int .i64 y.t,.int .i64 y.n,.int .i64 y.m] from rfl,run_eql_struct]
 have h:=tok_equal x y W
 simp only[tokV] at h
 rw[h]
 rfl
end Go.Proofs.YtjkebndkeamijaaGreatDoor
