/-
  PROVED HERE: what the texts DPNewsW, DPOpenS say.
-/
import Derived.Test.YtjkebndkeamijaaGreatDoorCP40
set_option maxRecDepth 100000
set_option maxHeartbeats 1600000
namespace Go.Proofs.YtjkebndkeamijaaGreatDoor
open Go.RowKit
theorem news_walk (whole:ByteArray)(a:Option Addr)(len cap:Nat)(l:List SpecD)(ga:Option Addr)(gl gc:Nat)(gs:List Grp)(ta:Option Addr)(tl tc:Nat)(tk:List Tok)(t:Int)(w:World)(hw:whole.size<=9223372036854775807)(hl:Specs w a len l)(hG:Groups w ga gl gs)(hls:∀x∈l,x.name.size<=9223372036854775807/\x.expr.size<=9223372036854775807)(hgs:∀x∈gs,x.1.size<=9223372036854775807/\x.2.length<=1500000)(ht:Toks w ta tl tk)(hlie:Lies ta tl tc)(hE:ETy w) :
  Calls Tryz.prog 4 #[.string whole,.slice a len cap,.slice ga gl gc,.slice ta tl tc,.int .i64 t] w fun e w' => e=.returned (.bool true)/\Below w.heap.size w w' := by
 have HAW:Hid (∀X,Below w.heap.size w X->Calls Tryz.prog 7 #[] X fun e w' => e=.returned (.bool true)/\Below X.heap.size X w'):=fun X hX=>awakes_calls X (hE.below hX)
 have HN1:=new_calls whole a len cap l ga gl gc gs w hw hl hG hls hgs hE
 have HN2:Hid (∀X,Below w.heap.size w X->Calls Tryz.prog 17 #[.string whole,.slice a len cap,.slice ga gl gc] X fun e w' => Below X.heap.size X w' /\ ((newE whole l gs≠0/\e=.returned (.tuple #[.pointer none,.int .i64 (newE whole l gs)]))\/(newE whole l gs=0/\∃B,e=.returned (.tuple #[.pointer (some ⟨B,0,none⟩),.int .i64 0])/\RSch w' B whole a len cap l gs))):=fun X hX=>rnew_calls whole a len cap l ga gl gc gs X hw (hl.below hX) (hG.below hX) hls (fun x hx=>(hgs x hx).1)
 have HTK:=Hid.mk_ ht
 have HLI:=Hid.mk_ hlie
 have htl:(tl:Int)<=9223372036854775807:=by have:=hlie.1;have:=hlie.2.1;omega
 obtain⟨NE,hNE⟩:∃NE,newE whole l gs=NE:=⟨_,rfl⟩
 rw[hNE] at HN1 HN2
 clear hl hG hls hgs hE hNE ht hlie
 by_cases hbig:300<tl
 ·have HA:=HAW.out w (zzd _ _)
  (have hb:(300:Int)<(tl:Int):=by omega);clear HAW HN1 HN2 HTK HLI;go_enter Tryz.func4,Tryz.ntmps4;(go_wp2_with fail);refine HA.mono ?_;rintro e X1 ⟨rfl,hB1⟩;have HE:=Hid.mk_ hB1;clear hB1 HA;go_wp2;go_ret
  first | exact HE.out | exact⟨rfl,HE.out⟩
 have hb:¬(300:Int)<(tl:Int):=by omega
 by_cases h0:NE=0
 ·subst h0
  go_enter Tryz.func4,Tryz.ntmps4;(go_wp2_with fail);refine HN1.mono ?_;rintro e X1 ⟨hB1,⟨hx,_⟩ | ⟨_,B1,rfl,hm⟩⟩
  ·exact absurd rfl hx
  have HM:=Hid.mk_ hm;have HB1:=Hid.mk_ hB1;have HN3:=HN2.out X1 hB1;clear HN1 HN2 hm hB1;(go_wp2_with fail);refine HN3.mono ?_;rintro e X2 ⟨hB2,⟨hx,_⟩ | ⟨_,B2,rfl,hr⟩⟩
  ·exact absurd rfl hx
  obtain⟨g,c,ng,nc,ks,hS,hk0,hks⟩:=made_ks (HM.out.below hB2);have hB02:=HB1.out.trans (hB2.mono HB1.out.size);have HB2:=Hid.mk_ hB02;have HT2:=Hid.mk_ (HTK.out.below hB02);have HC1:=scheck_any X2 hS hk0 ta tl tc tk HT2.out HLI.out oo;have HC2:=Hid.mk_ (fun (X:World) (hX:Below X2.heap.size X2 X)=>rscheck_calls X (hr.below hX) hks ta tl tc tk (HT2.out.below hX) oo);have HS1:=Hid.mk_ (fun (X:World) (hX:Below X2.heap.size X2 X)=>spec_calls X (hS.below hX) hk0 t);have HS2:=Hid.mk_ (fun (X:World) (hX:Below X2.heap.size X2 X)=>rspec_ks X (hr.below hX) hks t);generalize (checkS ks (namesD l gs) (treesOf whole l) tk).1=c1 at *;generalize (checkS ks (namesD l gs) (treesOf whole l) tk).2=c2 at *;generalize decide (1<=t/\t<(ks.length:Int))=okb at *;generalize specR ks t=ss at *;obtain⟨sn,se,sf,sm,sl,sk,sb⟩:=ss;unfold specV at HS1 HS2;dsimp only at HS1 HS2;have b0:((0:Int) != 0)=false:=rfl;clear hB2 hB02 hr HN3 hS hks hk0 HM HT2 HTK HLI;(go_wp2_with fail);refine HC1.mono ?_;rintro e X3 ⟨rfl,hB3⟩;have HB3:=Hid.mk_ hB3;have H3:=HC2.out X3 hB3;clear HC1 HC2 hB3;(go_wp2_with fail);refine H3.mono ?_;rintro e X4 ⟨rfl,hB4⟩;have HB4:=Hid.mk_ (HB3.out.trans (hB4.mono HB3.out.size));have H4:=HS1.out X4 HB4.out;clear H3 hB4 HB3 HS1;(go_wp2_with fail);refine H4.mono ?_;rintro e X5 ⟨rfl,hB5⟩;have hB25:=HB4.out.trans (hB5.mono HB4.out.size);obtain⟨X6,hX6⟩:∃X6,X6=X5.alloc (.cells #[.string sn,.string se,.bool sf,.int .i64 sm,.int .i64 sl,.int .i64 sk,.bool sb] 34):=⟨_,rfl⟩;(have m6:X6.heap[X5.heap.size]? = some (.cells #[.string sn,.string se,.bool sf,.int .i64 sm,.int .i64 sl,.int .i64 sk,.bool sb] 34 (0,0)):=by rw[hX6];exact World.alloc_heap_new X5 _);(have HB6:Hid (Below X2.heap.size X2 X6):=by rw[hX6];exact hB25.alloc hB25.size _);have H6:=HS2.out X6 HB6.out;have HM6:=Hid.mk_ m6;clear H4 hB5 hB25 HB4 HS2 m6;(go_wp2_with fail);rw[<-hX6];clear hX6;refine H6.mono ?_;rintro e X7 ⟨rfl,hB7⟩;have hB27:=HB6.out.trans (hB7.mono HB6.out.size);obtain⟨X8,hX8⟩:∃X8,X8=X7.alloc (.cells #[.string sn,.string se,.bool sf,.int .i64 sm,.int .i64 sl,.int .i64 sk,.bool sb] 34):=⟨_,rfl⟩;(have m8:X8.heap[X7.heap.size]? = some (.cells #[.string sn,.string se,.bool sf,.int .i64 sm,.int .i64 sl,.int .i64 sk,.bool sb] 34 (0,0)):=by rw[hX8];exact World.alloc_heap_new X7 _);have hlt:=(zza.1 HM6.out).1
  have m6:X8.heap[X5.heap.size]? = some (.cells #[.string sn,.string se,.bool sf,.int .i64 sm,.int .i64 sl,.int .i64 sk,.bool sb] 34 (0,0)):=by
   have h1:=(hB7.block _ hlt).trans HM6.out;rw[hX8];exact(zzf _ _ _ (zzl hlt hB7.size)).trans h1
  have HB8:Hid (Below w.heap.size w X8):=by
   have:=HB2.out.trans (hB27.mono HB2.out.size)
   rw[hX8];exact this.alloc this.size _
  (have q0:=fun j=>cell_of_row _ _ j _ _ _ m6);(have q1:=fun j=>cell_of_row _ _ j _ _ _ m8);have p0:=q0 0;have p1:=q0 1;have p2:=q0 2;have p3:=q0 3;have p4:=q0 4;have p5:=q0 5;have p6:=q0 6;have r0:=q1 0;have r1:=q1 1;have r2:=q1 2;have r3:=q1 3;have r4:=q1 4;have r5:=q1 5;have r6:=q1 6;(have hg:=fun op x y xs ys W=>spec_eqGuard op x y xs ys W);have he:=spec_eql sn se sf sm sl sk sb;have HA:=HAW.out X8 HB8.out;dsimp at p0 p1 p2 p3 p4 p5 p6 r0 r1 r2 r3 r4 r5 r6;clear q0 q1 m6 m8 hlt H6 hB7 hB27 HB6 HM6 HAW;rw[hX8] at p0 p1 p2 p3 p4 p5 p6 r0 r1 r2 r3 r4 r5 r6;(go_wp2_with fail);rw[<-hX8];clear hX8 p0 p1 p2 p3 p4 p5 p6 r0 r1 r2 r3 r4 r5 r6;refine HA.mono ?_;rintro e X9 ⟨rfl,hB9⟩;have HE:=Hid.mk_ (HB8.out.trans (hB9.mono HB8.out.size));clear hB9 HA;go_wp2;go_ret
  first | exact HE.out | exact⟨rfl,HE.out⟩
 ·have b0:(NE != NE)=false:=by simp
  go_enter Tryz.func4,Tryz.ntmps4;(go_wp2_with fail);refine HN1.mono ?_;rintro e X1 ⟨hB1,⟨_,rfl⟩ | ⟨hx,_⟩⟩
  ·have HB1:=Hid.mk_ hB1
   have HN3:=HN2.out X1 hB1;clear HN1 HN2 hB1;(go_wp2_with fail);refine HN3.mono ?_;rintro e X2 ⟨hB2,⟨_,rfl⟩ | ⟨hx,_⟩⟩
   ·have HB2:=Hid.mk_ (HB1.out.trans (hB2.mono HB1.out.size))
    have HA2:=HAW.out X2 HB2.out;clear hB2 HN3;(go_wp2_with fail);refine HA2.mono ?_;rintro e X3 ⟨rfl,hB3⟩;have HE:=Hid.mk_ (HB2.out.trans (hB3.mono HB2.out.size));clear hB3 HA2;go_wp2;go_ret
    first | exact HE.out | exact⟨rfl,HE.out⟩
   ·exact absurd hx h0
  ·exact absurd hx h0
end Go.Proofs.YtjkebndkeamijaaGreatDoor
namespace Go.Proofs.YtjkebndkeamijaaGreatDoor
open Go.RowKit Go.ChangeShapes Go.WideShapes
theorem bulk_pos {H:Type}(d:DataW H):1<=Rows.uptoBulk d:=by
 cases d with
 | lit v=>cases v<;>(unfold Rows.uptoBulk;omega)
 | _=>unfold Rows.uptoBulk;omega
theorem bulk_len {H:Type}(l:List (DataW H)):l.length<=Rows.uptoBulkAll l:=by
 induction l with
 | nil=>exact zzn _
 | cons d r ih=>
  have:=bulk_pos d
  unfold Rows.uptoBulkAll;rw[List.length_cons];omega
theorem bulk_mem {H:Type}{l:List (DataW H)}{d:DataW H}(h:d∈l):Rows.uptoBulk d<=Rows.uptoBulkAll l:=by
 induction l with
 | nil=>cases h
 | cons x r ih=>
  unfold Rows.uptoBulkAll;rcases List.mem_cons.1 h with rfl | h
  ·omega
  ·have:=ih h
   omega
theorem open_intsU {H:Type}{enc:TypeId×Value->H}{W:World}{sp:Nat->Bool}{hd:Bool}{fuel:Nat}{cs:List Value}{x:DataW H×List MemPlace}(h:DataW.trod enc Tryz.prog W 0 sp hd fuel 61 cs=some x):∃a len cap zs,cs=[.slice a len cap]/\Ints W a len zs/\len<=Rows.uptoBulk x.1:=by
 obtain⟨a,len,cap,zs,e,hI⟩:=open_intsF h
 refine⟨a,len,cap,zs,e,hI,?_⟩
 rcases DataW.trod_slice Tryz.underlying61 h with ⟨e2,_⟩ | ⟨y,l,c,elems,rest,n', _,e2,d2,_,_,_,hel,_⟩
 ·rw[e] at e2
  simp at e2;omega
 ·rw[e] at e2
  simp at e2;rw[d2]
  have:=bulk_len (elems.map (·.1))
  rw[List.length_map] at this
  show len<=Rows.uptoBulk (.slice (elems.map (·.1)) (rest.map (·.1)))
  unfold Rows.uptoBulk;omega
theorem k123{p:Prop}(h:p:=by
  simp[Value.cells] at e2;obtain⟨rfl,rfl,rfl⟩:=e2;exact⟨[],⟨rfl,oo,.inl rfl⟩,fun x hx=>by cases hx⟩
  ):p:=h
theorem k95{p:Prop}(h:p:=by
  rw[add_none] at q;rcases Nat.lt_or_ge b W.heap.size with hlt | hge
  ·exact hlt
  ·simp[World.cell?,Array.getElem?_eq_none hge] at q
  ):p:=h
theorem open_groupsU {H:Type}{enc:TypeId×Value->H}{W:World}{a:Option Addr}{len cap:Nat}{d:DataW H}{p:List MemPlace}(h:DataW.Trod enc Tryz.prog W 0 (fun _=>true) true 39 (.slice a len cap) d p):∃gs:List Grp,Groups W a len gs/\∀x∈gs,x.1.size<=9223372036854775807/\x.2.length<=Rows.uptoBulk d:=by
 have c9:Tryz.prog.cellsOf 9=1:=by kernel_rfl
 have c26:Tryz.prog.cellsOf 61=1:=by kernel_rfl
 have c37:Tryz.prog.cellsOf 63=2:=by kernel_rfl
 obtain⟨fuel,hf⟩:=h
 rcases DataW.trod_slice Tryz.underlying39 hf with ⟨e2,d2⟩ | ⟨y,l,c,elems,rest,n', hn,e2,d2,_,hlc,hcm,hel,hes,_,_⟩
 ·exact k123
 ·simp[Value.cells] at e2
  obtain⟨rfl,rfl,rfl⟩:=e2;have hd0:d=.slice (elems.map (·.1)) (rest.map (·.1)):=congrArg (·.1) d2
  have each:∀i,i<len->∃(g:Grp) (a' : Option Addr) (len' cap' : Nat),W.cell? (y.add (i * 2))=some (.string g.1)/\W.cell? ((y.add (i * 2)).add 1)=some (.slice a' len' cap')/\Ints W a' len' g.2/\g.1.size<=9223372036854775807/\g.2.length<=Rows.uptoBulk d:=by
   intro i hi;have hq:=hes i hi;rw[zze oo,c37] at hq;obtain⟨cs', q1,q2⟩:=Option.bind_eq_some_iff.1 hq;obtain⟨_,_,hcell⟩:=World.cells?_some q1;obtain⟨xs,m,_,hxy,hlen,hxl,hfi⟩:=DataW.trod_struct Tryz.underlying63 q2;rw[c37] at hlen
   match xs,hxl,cs', hlen with
   | [y0,y1],_,[v0,v1],_=>
    have g0:=hfi 0 _ rfl;have g1:=hfi 1 _ rfl;simp[c9,c26] at g0 g1;obtain⟨s,e0,d0,hsz⟩:=DataW.trod_string Tryz.underlying9 g0;obtain⟨a', len', cap', zs,e1,hI,hbk⟩:=open_intsU g1;simp at e0 e1;subst e0 e1;have m0:=hcell 0 oo;rw[show (y.add (i * 2)).add 0=y.add (i * 2) from by obtain⟨b,o,sp⟩:=y;cases sp<;>simp[Addr.add]] at m0;refine⟨(s,zs),a', len', cap', m0,hcell 1 oo,hI,by unfold maxLen at hsz;exact hsz,?_⟩;have hz:=hI.1;(have hx1:(elems[i]'(by omega)).1=.agg [y0.1,y1.1]:=by rw[hxy];rfl);have hm:(elems[i]'(by omega)).1∈elems.map (·.1):=List.mem_map.2 ⟨_,List.getElem_mem _,rfl⟩;have hb1:=bulk_mem hm;rw[hx1] at hb1
    have hb2:Rows.uptoBulk y1.1+Rows.uptoBulk y0.1+1<=Rows.uptoBulk (.agg [y0.1,y1.1]:DataW H):=by
     (have e:Rows.uptoBulk (.agg [y0.1,y1.1]:DataW H)=Rows.uptoBulk y0.1+(Rows.uptoBulk y1.1+0)+1:=by simp only[Rows.uptoBulk,Rows.uptoBulkAll]);omega
    rw[hd0]
    have hb3:Rows.uptoBulkAll (elems.map (·.1))<=Rows.uptoBulk (.slice (elems.map (·.1)) (rest.map (·.1))):=by
     unfold Rows.uptoBulk;omega
    show zs.length<=_
    omega
  haveI:Inhabited Grp:=⟨(⟨#[]⟩,[])⟩
  obtain⟨Y,hY⟩:=Deep.choose_lt each;refine⟨(List.range len).map Y,⟨by simp,by unfold maxLen at hcm;omega,?_⟩,fun x hx=>?_⟩
  ·rcases Nat.eq_zero_or_pos len with h0 | h0
   ·exact .inl h0
   ·obtain⟨b,o,sp⟩:=y
    obtain rfl:sp=none:=by
     obtain⟨_,_,_,q,_⟩:=hY 0 h0
     have:=World.cell?_spot q
     simpa [Addr.add] using this
    refine .inr ⟨b,o,rfl,?_,fun i g hg=>?_⟩
    ·obtain⟨_,_,_,q,_⟩:=hY 0 h0
     exact k95
    ·have hi:i<len:=by
      have:=(zzc.1 hg).1
      simpa using this
     (obtain rfl:Y i=g:=by simpa [List.getElem?_map,List.getElem?_range hi] using hg);obtain⟨a', len', cap', q0,q1,q2,_⟩:=hY i hi;simp only[add_none] at q0 q1;exact⟨a', len', cap', q0,q1,q2⟩
  ·obtain⟨i,hi,rfl⟩:=List.mem_map.1 hx
   obtain⟨_,_,_,_,_,_,q1,q2⟩:=hY i (List.mem_range.1 hi);exact⟨q1,q2⟩
theorem open_specs {H:Type}{enc:TypeId×Value->H}{W:World}{a:Option Addr}{len cap:Nat}{d:DataW H}{p:List MemPlace}(h:DataW.Trod enc Tryz.prog W 0 (fun _=>true) true 38 (.slice a len cap) d p):∃l:List SpecD,Specs W a len l/\∀x∈l,x.name.size<=9223372036854775807/\x.expr.size<=9223372036854775807:=by
 have c9:Tryz.prog.cellsOf 9=1:=by kernel_rfl
 have c3:Tryz.prog.cellsOf 3=1:=by kernel_rfl
 have c4:Tryz.prog.cellsOf 4=1:=by kernel_rfl
 have c37:Tryz.prog.cellsOf 34=7:=by kernel_rfl
 obtain⟨fuel,hf⟩:=h
 rcases DataW.trod_slice Tryz.underlying38 hf with ⟨e2,d2⟩ | ⟨y,l,c,elems,rest,n', hn,e2,d2,_,hlc,hcm,hel,hes,_,_⟩
 ·exact k123
 ·simp[Value.cells] at e2
  obtain⟨rfl,rfl,rfl⟩:=e2
  have each:∀i,i<len->∃s:SpecD,(W.cell? (y.add (i * 7))=some (.string s.name)/\W.cell? ((y.add (i * 7)).add 1)=some (.string s.expr)/\W.cell? ((y.add (i * 7)).add 2)=some (.bool s.leaf)/\W.cell? ((y.add (i * 7)).add 3)=some (.int .i64 s.marks)/\W.cell? ((y.add (i * 7)).add 4)=some (.int .i64 s.least)/\W.cell? ((y.add (i * 7)).add 5)=some (.int .i64 s.most)/\W.cell? ((y.add (i * 7)).add 6)=some (.bool s.lines))/\s.name.size<=9223372036854775807/\s.expr.size<=9223372036854775807:=by
   intro i hi;have hq:=hes i hi;rw[zze oo,c37] at hq;obtain⟨cs', q1,q2⟩:=Option.bind_eq_some_iff.1 hq;obtain⟨_,_,hcell⟩:=World.cells?_some q1;obtain⟨xs,m,_,hxy,hlen,hxl,hfi⟩:=DataW.trod_struct Tryz.underlying34 q2;rw[c37] at hlen
   match xs,hxl,cs', hlen with
   | [y0,y1,y2,y3,y4,y5,y6],_,[v0,v1,v2,v3,v4,v5,v6],_=>
    have g0:=hfi 0 _ rfl;have g1:=hfi 1 _ rfl;have g2:=hfi 2 _ rfl;have g3:=hfi 3 _ rfl;have g4:=hfi 4 _ rfl;have g5:=hfi 5 _ rfl;have g6:=hfi 6 _ rfl;simp[c9,c3,c4] at g0 g1 g2 g3 g4 g5 g6;obtain⟨s0,e0,_,z0⟩:=DataW.trod_string Tryz.underlying9 g0;obtain⟨s1,e1,_,z1⟩:=DataW.trod_string Tryz.underlying9 g1;obtain⟨s2,e2,_⟩:=DataW.trod_bool Tryz.underlying4 g2;obtain⟨s3,e3,_,_⟩:=DataW.trod_int Tryz.underlying3 g3;obtain⟨s4,e4,_,_⟩:=DataW.trod_int Tryz.underlying3 g4;obtain⟨s5,e5,_,_⟩:=DataW.trod_int Tryz.underlying3 g5;obtain⟨s6,e6,_⟩:=DataW.trod_bool Tryz.underlying4 g6;simp at e0 e1 e2 e3 e4 e5 e6;subst e0 e1 e2 e3 e4 e5 e6;have m0:=hcell 0 oo;rw[show (y.add (i * 7)).add 0=y.add (i * 7) from by obtain⟨b,o,sp⟩:=y;cases sp<;>simp[Addr.add]] at m0;unfold maxLen at z0 z1;exact⟨⟨s0,s1,s2,s3,s4,s5,s6⟩,⟨m0,hcell 1 oo,hcell 2 oo,hcell 3 oo,hcell 4 oo,hcell 5 oo,hcell 6 oo⟩,z0,z1⟩
  haveI:Inhabited SpecD:=⟨zeroS⟩
  obtain⟨Y,hY⟩:=Deep.choose_lt each;refine⟨(List.range len).map Y,⟨by simp,by unfold maxLen at hcm;omega,?_⟩,fun x hx=>?_⟩
  ·rcases Nat.eq_zero_or_pos len with h0 | h0
   ·exact .inl h0
   ·obtain⟨b,o,sp⟩:=y
    obtain rfl:sp=none:=by
     obtain⟨⟨q,_⟩,_⟩:=hY 0 h0
     have:=World.cell?_spot q
     simpa [Addr.add] using this
    refine .inr ⟨b,o,rfl,?_,fun i g hg=>?_⟩
    ·obtain⟨⟨q,_⟩,_⟩:=hY 0 h0
     exact k95
    ·have hi:i<len:=by
      have:=(zzc.1 hg).1
      simpa using this
     (obtain rfl:Y i=g:=by simpa [List.getElem?_map,List.getElem?_range hi] using hg);obtain⟨⟨q0,q1,q2,q3,q4,q5,q6⟩,_⟩:=hY i hi;simp only[add_none] at q0 q1 q2 q3 q4 q5 q6;exact⟨q0,q1,q2,q3,q4,q5,q6⟩
  ·obtain⟨i,hi,rfl⟩:=List.mem_map.1 hx
   exact(hY i (List.mem_range.1 hi)).2
end Go.Proofs.YtjkebndkeamijaaGreatDoor
