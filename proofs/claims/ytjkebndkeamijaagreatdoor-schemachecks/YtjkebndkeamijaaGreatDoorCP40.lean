/-
  PROVED HERE: what the texts DPRSCheck, DPAwakeS, DPSpecE, DPArgsT say.
-/
import Derived.Test.YtjkebndkeamijaaGreatDoorCP39
set_option maxRecDepth 100000
set_option maxHeartbeats 1600000
namespace Go.Proofs.YtjkebndkeamijaaGreatDoor
open Go.RowKit
theorem check_first {ks:List KindD}{sp:List SpecD}(hks:ks.map (·.1)=zeroS::sp){whole:ByteArray}{G:List Grp}(h6:firstE (whole::sp.map (·.expr)) G=0){l:List Tok}(hok:(check l).2=0){n:Nat}(hn:n<=l.length)(hall:∀q,q<n->OneD ks G (treesOf whole sp) l q) :
  (n<l.length->¬OneD ks G (treesOf whole sp) l n->checkS ks G (treesOf whole sp) l=((n:Int),9))/\(n=l.length->¬LangD G 200 (outTree whole) (wordD l (kids l (-1)))->checkS ks G (treesOf whole sp) l=((n:Int),9))/\(n=l.length->LangD G 200 (outTree whole) (wordD l (kids l (-1)))->checkS ks G (treesOf whole sp) l=((n:Int),0)):=by
 obtain⟨h48,hg⟩:=(check_ok l).1 hok
 obtain⟨f1,f2,f3⟩:=first_one hg h48 hn (right_to hks h6 hn hall) hall
 unfold checkS
 rw[if_neg (by rw[hok];simp)]
 refine⟨fun h1 h2=>?_,fun h1 h2=>?_,fun h1 h2=>?_⟩
 ·rw[f1 h1 h2,if_pos oo]
 ·rw[f2 h1 h2,if_pos oo]
 ·rw[f3 h1 h2,if_neg (by simp),h1]
theorem k83{p:Prop}(h:p:=by
  clear hr HFF;refine takeG 13 (some 43) hZ ?_;refine wpAnyH_done kr ?_ _;go_wp2;go_ret2
  have:=HE.out
  cases this;exact⟨rfl,HZ.out⟩
  ):p:=h
theorem rscheck_calls {B:Nat}{whole:ByteArray}{a:Option Addr}{len cap:Nat}{sp:List SpecD}{gs:List Grp}{ks:List KindD}(w:World)(h:RSch w B whole a len cap sp gs)(hks:ks.map (·.1)=zeroS::sp)(ta:Option Addr)(tl tc:Nat)(l:List Tok)(hl:Toks w ta tl l)(hsz:tl<=35184372088832) :
  Calls Tryz.prog 11 #[.pointer (some ⟨B,0,none⟩),.slice ta tl tc] w fun e w' => e=.returned (.tuple #[.int .i64 (checkS ks (namesD sp gs) (treesOf whole sp) l).1,.int .i64 (checkS ks (namesD sp gs) (treesOf whole sp) l).2])/\Below w.heap.size w w' := by
 have HC:=rflat_calls ta tl tc l w hl hsz
 have hll:=hl.1
 by_cases d0:(check l).2≠0
 ·have hS:checkS ks (namesD sp gs) (treesOf whole sp) l=check l:=by unfold checkS;rw[if_pos d0]
  rw[hS];generalize (check l).1=ca at *;generalize (check l).2=cb at *;(have e1:(cb != 0)=true:=by simp[bne,d0]);(have e0:(cb==0)=false:=by simpa using d0);clear h hks hl hsz hS d0;go_enter Tryz.func11,Tryz.ntmps11;(go_wp2_with fail);refine HC.mono ?_;rintro e X ⟨rfl,hX⟩;have HX:=Hid.mk_ hX;clear HC hX;go_wp2;go_ret2;exact⟨rfl,HX.out⟩
 ·have hok:(check l).2=0:=Classical.not_not.1 d0
  obtain⟨h48,hg⟩:=(check_ok l).1 hok;rw[hok] at HC;(have hone:=fun (X:World) (hX:Below w.heap.size w X) (j:Nat) (hj:j<tl)=>rone_calls X (h.below hX) hks ta tl tc l (hl.below hX) oo hg j hj);(have hwo:=fun (X:World) (hX:Below w.heap.size w X)=>rword_calls ta tl tc l (-1) 0 tl tl X (hl.below hX) oo oo (zzb _) oo);have hwe:=refW_whole hg;rw[hll] at hwe;rw[hwe] at hwo;obtain⟨⟨rk,rn,ra,rl,rc⟩,ea,ec,ng,nc,h1,h2,_,h4,_,h6,_⟩:=h;have hBl:=(zza.1 h1).1;have hsay:=says_later ⟨whole,rfl⟩ h2 h4 (gc:=nc) (right_tree (whole:=whole) (l:=l) h6 (.inl rfl));(have hF:=fun (n:Nat) (hn:n<=tl) (hall:∀q,q<n->OneD ks (namesD sp gs) (treesOf whole sp) l q)=>check_first hks h6 hok (show n<=l.length by omega) hall);rw[hll] at hF
  have HCE:Hid (∀X,Below w.heap.size w X->X.cell? ⟨B,0,none⟩=some (.int .i64 rk)/\X.cell? ⟨B,1,none⟩=some (.string rn)/\X.cell? ⟨B,2,none⟩=some (.slice ra rl rc)/\X.cell? ⟨B,5,none⟩=some (.slice (some ⟨ng,0,none⟩) (namesD sp gs).length nc)):=fun X hX=>by
   have hm:=(hX.block _ hBl).trans h1;exact⟨cell_of_row X B 0 _ _ _ hm,cell_of_row X B 1 _ _ _ hm,cell_of_row X B 2 _ _ _ hm,cell_of_row X B 5 _ _ _ hm⟩
  have hwl:(wordD l (kids l (-1))).length<=2048:=by
   have:=kids_few l (-1)
   rw[word_length];omega
  unfold rawV at hsay;dsimp only at hsay;generalize OneD ks (namesD sp gs) (treesOf whole sp) l=P at *;generalize checkS ks (namesD sp gs) (treesOf whole sp) l=cs at *;generalize outTree whole=T at *;generalize wordD l (kids l (-1))=wd at *;generalize namesD sp gs=G at *;generalize (check l).1=ca at *;obtain⟨A,E⟩:=cs;dsimp only at *;obtain⟨wl,hwl2⟩:∃wl,wd.length=wl:=⟨_,rfl⟩;obtain⟨gl,hgl2⟩:∃gl,G.length=gl:=⟨_,rfl⟩;rw[hwl2] at hwo hwl;rw[hgl2] at hsay HCE;have HON:=Hid.mk_ hone;have HWO:=Hid.mk_ hwo;have HSY:=Hid.mk_ hsay;have HFF:=Hid.mk_ hF;(have htl:(tl:Int)<=2048:=by omega);clear h1 h2 h4 h6 hBl hsay hF hone hwo hwe hks hg hok d0 hl hsz hll hwl2 hgl2 h48;go_enter Tryz.func11,Tryz.ntmps11;(go_wp2_with fail);refine HC.mono ?_;rintro e X0 ⟨rfl,hX0⟩;have HX0:=Hid.mk_ hX0;clear HC hX0;go_wp2
  go_loopw [8] (fun u w' => ∃k:Nat,k<=tl/\u=.int .i64 (k:Int)/\(∀q,q<k->P q)/\Below w.heap.size w w') (fun u _=>tl - (intOf u).toNat)
  case atStart=>exact⟨0,zzn _,rfl,fun q hq=>absurd hq (Nat.not_lt_zero _),HX0.out⟩
  case round=>
   obtain⟨k,hk,rfl,hall,hB⟩:=hrel;have HAL:=Hid.mk_ hall;have HB:=Hid.mk_ hB;clear hall hB HX0
   by_cases hlt:k<tl
   ·have hki:(k:Int)<(tl:Int):=by omega
    have H1:=HON.out wr HB.out k hlt HAL.out;clear HON;(go_wp2_with fail);refine H1.mono ?_;rintro e X ⟨r,rfl,hr,hX⟩;have HX:=Hid.mk_ (HB.out.trans (hX.mono HB.out.size));clear H1 hX;cases r with
    | false=>
     have HE:=Hid.mk_ ((HFF.out k hk HAL.out).1 hlt (fun p=>by cases hr.2 p));clear hr HFF;go_wp2;go_ret2
     have:=HE.out
     cases this;exact⟨rfl,HX.out⟩
    | true=>
     have HP:=Hid.mk_ (hr.1 rfl);clear hr HFF;go_wp2
     go_roundw
     case rel=>exact⟨k+1,oo,by go_num,fun q hq=>by
      by_cases e:q=k
      ·subst e;exact HP.out
      ·exact HAL.out q oo,HX.out⟩
     case measure=>simp[intOf];omega
   ·obtain rfl:k=tl:=by omega
    clear HON;(go_wp2_with fail);refine wp_region_held_drew (S:=fun X=>Below wr.heap.size wr X) hmx (zzd _ _).drew (fun hS=>?_);refine takeG 0 (some 30) hS ?_;refine takeG 1 (some 31) hS ?_;refine takeG 2 (some 32) hS ?_;refine takeG 3 (some 33) hS ?_ (hy:=by intro w hSw;obtain⟨q0,q1,q2,q3⟩:=HCE.out _ (HB.out.trans (hSw.mono HB.out.size));go_simp;with_reducible rfl);refine takeG 4 (some 34) hS ?_;refine takeG 5 (some 35) hS ?_;refine takeG 6 (some 36) hS ?_;refine takeG 7 (some 37) hS ?_ (hy:=by intro w hSw;obtain⟨q0,q1,q2,q3⟩:=HCE.out _ (HB.out.trans (hSw.mono HB.out.size));go_simp;with_reducible rfl);refine takeG 8 (some 38) hS ?_;refine takeG 9 (some 39) hS ?_;refine takeG 10 (some 40) hS ?_;refine callD 11 kr rfl (fun K hK=>?_);rw[if_pos (by rfl)];go_simp;refine(HWO.out _ (HB.out.trans (hS.mono HB.out.size))).mono ?_;rintro e Y ⟨wa,wc,rfl,hO,bY⟩;have hY:=hS.trans (bY.mono hS.size);obtain⟨_,_,e1,hI⟩:=owned_ints hO oo;cases e1;have H2:=(HSY.out Y (HB.out.trans (hY.mono HB.out.size)) wa wl wc wd hI).1;clear bY hO hI;refine hK.out _ _ hY (fun _=>?_);clear hK K;refine callD 12 kr rfl (fun K hK=>?_);rw[if_pos (by rfl)];go_simp;refine H2.mono ?_;rintro e Z ⟨r,rfl,hr,bZ⟩;have hZ:=hY.trans (bZ.mono hY.size);have HZ:=Hid.mk_ (HB.out.trans (hZ.mono HB.out.size));clear bZ H2;refine hK.out _ _ hZ (fun _=>?_);clear hK K;cases r with
    | false=>
     have HE:=Hid.mk_ ((HFF.out k hk HAL.out).2.1 rfl (fun p=>by cases hr.2 p));exact k83
    | true=>
     have HE:=Hid.mk_ ((HFF.out k hk HAL.out).2.2 rfl (hr.1 rfl));exact k83
theorem lies_none:Lies none 0 0:=by
 unfold Lies
 simp
theorem toks_nil (w:World):Toks w none 0 []:=⟨rfl,.inl rfl⟩
theorem toks_pp (w:World)(b:Nat)(h:w.heap[b]? = some (.cells #[.int .i64 1,.int .i64 1,.int .i64 0,.int .i64 0,.int .i64 2,.int .i64 0,.int .i64 0,.int .i64 0] 58 (0,0))):Toks w (some ⟨b,0,none⟩) 2 [openP,closeT]:=by
 have hc:=fun j=>cell_of_row w b j _ _ _ h
 refine⟨rfl,.inr ⟨b,0,rfl,(zza.1 h).1,fun i x hx=>?_⟩⟩
 match i,hx with
 | 0,hx=>cases hx;exact⟨hc 0,hc 1,hc 2,hc 3⟩
 | 1,hx=>cases hx;exact⟨hc 4,hc 5,hc 6,hc 7⟩
 | n+2,hx=>simp at hx
theorem house_ck {w:World}{B g c ng nc:Nat}{ks:List KindD}(h:SchAt w B g c ng nc ks gsH (treesOf houseW houseL))(h8:ks.length=8):chk 200 (outTree houseW) gsH=0:=by
 obtain⟨x,hx⟩:∃x,ks[0]? = some x:=⟨_,zze oo⟩
 exact(h.trees 0 x _ hx rfl).2.2
theorem awakes_calls (w:World)(hE:ETy w):Calls Tryz.prog 7 #[] w fun e w' => e=.returned (.bool true)/\Below w.heap.size w w' := by
 have HH:Hid (∀X,Below w.heap.size w X->Calls Tryz.prog 8 #[] X fun e w' => ∃B,e=.returned (.pointer (some ⟨B,0,none⟩))/\MadeS w' B houseW houseL houseG/\Below X.heap.size X w'):=fun X hX=>house_calls X (hE.below hX)
 have HC1:Hid (∀(X:World) (B:Nat),MadeS X B houseW houseL houseG->Calls Tryz.prog 10 #[.pointer (some ⟨B,0,none⟩),.slice (some ⟨X.heap.size,0,none⟩) 2 2] (X.alloc (.cells #[.int .i64 1,.int .i64 1,.int .i64 0,.int .i64 0,.int .i64 2,.int .i64 0,.int .i64 0,.int .i64 0] 58)) fun e w' => e=.returned (.tuple #[.int .i64 2,.int .i64 0])/\Below X.heap.size X w'):=fun X B hm=>by
  have hBX:Below X.heap.size X (X.alloc (.cells #[.int .i64 1,.int .i64 1,.int .i64 0,.int .i64 0,.int .i64 2,.int .i64 0,.int .i64 0,.int .i64 0] 58)):=(zzd _ X).alloc (zzb _) _;obtain⟨g,c,ng,nc,ks,h1,h8,hs⟩:=house_kinds (hm.below hBX);refine(scheck_calls _ h1 oo (some ⟨X.heap.size,0,none⟩) 2 2 [openP,closeT] (toks_pp _ _ (World.alloc_heap_new X _)) (by unfold Lies;simp) oo (fun _ i x hx hk=>?_)).mono ?_
  ·match i,hx with
   | 0,hx=>cases hx;rw[h8];decide
   | 1,hx=>cases hx;exact absurd hk (by decide)
   | n+2,hx=>simp at hx
  ·rintro e w' ⟨rfl,hB⟩
   rw[check_para h8 hs];exact⟨rfl,hBX.trans (hB.mono hBX.size)⟩
 have HC2:Hid (∀(X:World) (B:Nat),MadeS X B houseW houseL houseG->Calls Tryz.prog 10 #[.pointer (some ⟨B,0,none⟩),.slice none 0 0] X fun e w' => e=.returned (.tuple #[.int .i64 0,.int .i64 9])/\Below X.heap.size X w'):=fun X B hm=>by
  obtain⟨g,c,ng,nc,ks,h1,h8,hs⟩:=house_kinds hm;refine(scheck_calls _ h1 oo none 0 0 [] (toks_nil X) lies_none oo (fun _ i x hx hk=>by simp at hx)).mono ?_;rintro e w' ⟨rfl,hB⟩;rw[check_none (house_ck h1 h8)];exact⟨rfl,hB⟩
 clear hE
 go_enter Tryz.func7,Tryz.ntmps7
 go_wp2_with fail
 refine(HH.out w (zzd _ _)).mono ?_
 rintro e X1 ⟨B1,rfl,hm1,hB1⟩
 have HX:=HC1.out X1 B1 hm1
 have HB1:=Hid.mk_ hB1
 clear hm1 hB1 HC1
 go_wp2_with fail
 refine HX.mono ?_
 rintro e X2 ⟨rfl,hB2⟩
 have HB2:=Hid.mk_ (HB1.out.trans (hB2.mono HB1.out.size))
 have HH2:=HH.out X2 HB2.out
 clear hB2 HX HB1 HH
 go_wp2_with fail
 refine HH2.mono ?_
 rintro e X3 ⟨B3,rfl,hm3,hB3⟩
 have HX3:=HC2.out X3 B3 hm3
 have HB3:=Hid.mk_ (HB2.out.trans (hB3.mono HB2.out.size))
 clear hm3 hB3 HC2 HH2 HB2
 go_wp2_with fail
 refine HX3.mono ?_
 rintro e X4 ⟨rfl,hB4⟩
 have HB4:=Hid.mk_ (HB3.out.trans (hB4.mono HB3.out.size))
 clear hB4 HX3 HB3
 go_wp2
 go_ret
 exact⟨rfl,HB4.out⟩
theorem spec_eqGuard (op:BinOp)(x y:Operand)(xs ys:Array Value)(W:World):(eqGuard op 34 x y (.agg xs) (.agg ys)).run Tryz.prog W=.ok () W:=run_eqGuard_agg W op 34 x y xs ys kr
theorem spec_eql (n e:ByteArray)(f:Bool)(m l k:Int)(b:Bool)(W:World):(binOp .eql 34 (.agg #[.string n,.string e,.bool f,.int .i64 m,.int .i64 l,.int .i64 k,.bool b]) (.agg #[.string n,.string e,.bool f,.int .i64 m,.int .i64 l,.int .i64 k,.bool b])).run Tryz.prog W=.ok (.bool true) W:=by
 have u3:=Tryz.underlying3
 have a3:=Tryz.isAgg3
 have z3:=Tryz.sizeOf3
 have u4:=Tryz.underlying4
 have a4:=Tryz.isAgg4
 have z4:=Tryz.sizeOf4
 have u9:=Tryz.underlying9
 have a9:=Tryz.isAgg9
 have z9:=Tryz.sizeOf9
 have hS:Tryz.prog.underlying 34=some (.struct (Tryz.prog.fieldsOf 34)):=by kernel_rfl
 have hp:Tryz.prog.stoodInHeld 34=false:=by kernel_rfl
 have h:(Op.equalIn 10000 34 (.agg #[.string n,.string e,.bool f,.int .i64 m,.int .i64 l,.int .i64 k,.bool b]) (.agg #[.string n,.string e,.bool f,.int .i64 m,.int .i64 l,.int .i64 k,.bool b])).run Tryz.prog W=.ok true W:=by
  rw[show (10000:Nat)=9999+1 from rfl,run_equalIn_agg W 9999 34 _ _ hS hp];simp only[Program.fieldsOf,Tryz.underlying34];go_simp
 rw[run_eql_struct,h]
 rfl
theorem made_ks {w:World}{B:Nat}{whole:ByteArray}{l:List SpecD}{gs:List Grp}(h:MadeS w B whole l gs):∃g c ng nc ks,SchAt w B g c ng nc ks (namesD l gs) (treesOf whole l)/\0<ks.length/\ks.map (·.1)=zeroS::l:=by
 obtain⟨g,c,ng,nc,ks,h1,h2⟩:=h
 refine⟨g,c,ng,nc,ks,h1,?_,h2⟩
 have:=congrArg List.length h2
 rw[List.length_map,List.length_cons] at this
 omega
end Go.Proofs.YtjkebndkeamijaaGreatDoor
namespace Go.Proofs.YtjkebndkeamijaaGreatDoor
open Go.ChangeShapes Go.WideShapes Go.ChangeAt Go.RowKit
def TokFits (x:Tok):Prop:=(Lit.int .i64 x.k).wf=true/\(Lit.int .i64 x.t).wf=true/\(Lit.int .i64 x.n).wf=true/\(Lit.int .i64 x.m).wf=true
theorem tok_of_cells {H:Type}{enc:TypeId×Value->H}{w:World}{base:Nat}{spare:Nat->Bool}{held:Bool}{fuel:Nat}{cs:List Value}{x:DataW H×List MemPlace}(h:DataW.trod enc Tryz.prog w base spare held fuel 58 cs=some x) :
  ∃y:Tok,cs=[.int .i64 y.k,.int .i64 y.t,.int .i64 y.n,.int .i64 y.m]/\TokFits y/\x=(.agg [.lit (.int .i64 y.k),.lit (.int .i64 y.t),.lit (.int .i64 y.n),.lit (.int .i64 y.m)],[]):=by
 obtain⟨xs,k,_,hxy,hlen,hxl,hf⟩:=DataW.trod_struct Tryz.underlying58 h
 rw[show Tryz.prog.cellsOf 58=4 from by kernel_rfl] at hlen
 match xs,hxl,cs,hlen with
 | [y0,y1,y2,y3],_,[v0,v1,v2,v3],_=>
  (have c3:Tryz.prog.cellsOf 3=1:=by kernel_rfl);have g0:=hf 0 _ rfl;have g1:=hf 1 _ rfl;have g2:=hf 2 _ rfl;have g3:=hf 3 _ rfl;simp[c3] at g0 g1 g2 g3;obtain⟨n0,e0,d0,f0⟩:=DataW.trod_int Tryz.underlying3 g0;obtain⟨n1,e1,d1,f1⟩:=DataW.trod_int Tryz.underlying3 g1;obtain⟨n2,e2,d2,f2⟩:=DataW.trod_int Tryz.underlying3 g2;obtain⟨n3,e3,d3,f3⟩:=DataW.trod_int Tryz.underlying3 g3;simp at e0 e1 e2 e3;subst e0 e1 e2 e3 d0 d1 d2 d3;exact⟨⟨n0,n1,n2,n3⟩,rfl,⟨f0,f1,f2,f3⟩,by rw[hxy];rfl⟩
theorem open_toks {H:Type}{enc:TypeId×Value->H}{W:World}{a:Option Addr}{len cap:Nat}{d:DataW H}{p:List MemPlace}(h:DataW.Trod enc Tryz.prog W 0 (fun _=>true) true 22 (.slice a len cap) d p) :
  ∃l:List Tok,Toks W a len l/\(∀x∈l,TokFits x)/\len<=cap/\cap<=maxLen/\(a=none->cap=0)/\(∀x,a=some x->0<cap->x.spot=none)/\(len=0\/∃elems spare,d=.slice elems spare/\len<=elems.length/\cap<=elems.length+spare.length):=by
 obtain⟨fuel,hf⟩:=h
 have hc4:Tryz.prog.cellsOf 58=4:=by kernel_rfl
 rcases Deep.open_slice Tryz.underlying22 hf with ⟨hcs,hx⟩ | ⟨x,l,c,m,n,D,Pl,hcs,_,hl,hm,hmm,hx,hD⟩
 ·simp[Value.cells] at hcs
  obtain⟨rfl,rfl,rfl⟩:=hcs;exact⟨[],⟨rfl,.inl rfl⟩,by simp,zzb _,zzn _,fun _=>rfl,fun _ _ h=>absurd h oo,.inl rfl⟩
 ·simp[Value.cells] at hcs
  obtain⟨rfl,rfl,rfl⟩:=hcs;simp only[if_true] at hmm;subst hmm;rw[hc4] at hD
  have each:∀i,i<m->∃y:Tok,TokFits y/\W.cell? (x.add (i * 4))=some (.int .i64 y.k)/\W.cell? ((x.add (i * 4)).add 1)=some (.int .i64 y.t)/\W.cell? ((x.add (i * 4)).add 2)=some (.int .i64 y.n)/\W.cell? ((x.add (i * 4)).add 3)=some (.int .i64 y.m):=by
   intro i hi;obtain⟨cs', h1,h2⟩:=hD i hi;obtain⟨_,_,hcell⟩:=World.cells?_some h1;obtain⟨y,rfl,hy,_⟩:=tok_of_cells h2;refine⟨y,hy,?_,hcell 1 oo,hcell 2 oo,hcell 3 oo⟩
   have:=hcell 0 oo
   rw[show (x.add (i * 4)).add 0=x.add (i * 4) from by obtain⟨b,o,s⟩:=x;cases s<;>simp[Addr.add]] at this;exact this
  haveI:Inhabited Tok:=⟨⟨0,0,0,0⟩⟩
  obtain⟨Y,hY⟩:=Deep.choose_lt each
  have hspot:0<m->x.spot=none:=by
   intro h0
   have:=World.cell?_spot (hY 0 h0).2.1
   obtain⟨b,o,s⟩:=x;simpa [Addr.add] using this
  refine⟨(List.range len).map Y,⟨by simp,?_⟩,?_,hl,hm,(fun e=>by cases e),(fun z e h0=>by cases e;exact hspot h0),.inr ⟨_,_,congrArg Prod.fst hx,by simp,by simp;omega⟩⟩
  ·rcases Nat.eq_zero_or_pos len with h0 | h0
   ·exact .inl h0
   ·obtain⟨b,o,s⟩:=x
    obtain rfl:s=none:=hspot oo;refine .inr ⟨b,o,rfl,?_,fun i y hy=>?_⟩
    ·have:=(hY 0 oo).2.1
     rw[add_none4] at this;rcases Nat.lt_or_ge b W.heap.size with hlt | hge
     ·exact hlt
     ·simp[World.cell?,Array.getElem?_eq_none hge] at this
    ·have hi:i<len:=by
      have:=(zzc.1 hy).1
      simpa using this
     obtain rfl:Y i=y:=by simpa [List.getElem?_map,List.getElem?_range hi] using hy
     have:=(hY i oo).2
     simp only[add_none4] at this;exact this
  ·intro y hy
   obtain⟨i,hi,rfl⟩:=List.mem_map.1 hy;exact(hY i (by have:=List.mem_range.1 hi;omega)).1
end Go.Proofs.YtjkebndkeamijaaGreatDoor
