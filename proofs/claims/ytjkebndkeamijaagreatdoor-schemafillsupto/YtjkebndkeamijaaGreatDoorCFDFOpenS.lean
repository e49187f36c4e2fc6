/-
  PROVED HERE: types and groups that came in, of bulk at most 2^20: what they are as plain data, and how many types a group has at most.
-/
import Derived.Test.YtjkebndkeamijaaGreatDoorCF23
set_option maxRecDepth 100000
namespace Go.Proofs.YtjkebndkeamijaaGreatDoor
open Go.RowKit Go.ChangeShapes Go.WideShapes
theorem bulk_pos {H:Type}(d:DataW H):1<=Rows.uptoBulk d:=by
 cases d with
 | lit v=>cases v<;>(unfold Rows.uptoBulk;omega)
 | _=>unfold Rows.uptoBulk;omega
theorem bulk_len {H:Type}(l:List (DataW H)):l.length<=Rows.uptoBulkAll l:=by
 induction l with
 | nil=>exact zzn _
 | cons d r ih=>
  have:=bulk_pos d
  unfold Rows.uptoBulkAll;rw[List.length_cons];omega
theorem bulk_mem {H:Type}{l:List (DataW H)}{d:DataW H}(h:d∈l):Rows.uptoBulk d<=Rows.uptoBulkAll l:=by
 induction l with
 | nil=>cases h
 | cons x r ih=>
  unfold Rows.uptoBulkAll;rcases List.mem_cons.1 h with rfl | h
  ·omega
  ·have:=ih h
   omega
theorem open_intsU {H:Type}{enc:TypeId×Value->H}{W:World}{sp:Nat->Bool}{hd:Bool}{fuel:Nat}{cs:List Value}{x:DataW H×List MemPlace}(h:DataW.trod enc Tryz.prog W 0 sp hd fuel 61 cs=some x):∃a len cap zs,cs=[.slice a len cap]/\Ints W a len zs/\len<=Rows.uptoBulk x.1:=by
 obtain⟨a,len,cap,zs,e,hI⟩:=open_intsF h
 refine⟨a,len,cap,zs,e,hI,?_⟩
 rcases DataW.trod_slice Tryz.underlying61 h with ⟨e2,_⟩ | ⟨y,l,c,elems,rest,n', _,e2,d2,_,_,_,hel,_⟩
 ·rw[e] at e2
  simp at e2;omega
 ·rw[e] at e2
  simp at e2;rw[d2]
  have:=bulk_len (elems.map (·.1))
  rw[List.length_map] at this
  show len<=Rows.uptoBulk (.slice (elems.map (·.1)) (rest.map (·.1)))
  unfold Rows.uptoBulk;omega
theorem k109{p:Prop}(h:p:=by
  simp[Value.cells] at e2;obtain⟨rfl,rfl,rfl⟩:=e2;exact⟨[],⟨rfl,oo,.inl rfl⟩,fun x hx=>by cases hx⟩
  ):p:=h
theorem k84{p:Prop}(h:p:=by
  rw[add_none] at q;rcases Nat.lt_or_ge b W.heap.size with hlt | hge
  ·exact hlt
  ·simp[World.cell?,Array.getElem?_eq_none hge] at q
  ):p:=h
theorem open_groupsU {H:Type}{enc:TypeId×Value->H}{W:World}{a:Option Addr}{len cap:Nat}{d:DataW H}{p:List MemPlace}(h:DataW.Trod enc Tryz.prog W 0 (fun _=>true) true 39 (.slice a len cap) d p):∃gs:List Grp,Groups W a len gs/\∀x∈gs,x.1.size<=9223372036854775807/\x.2.length<=Rows.uptoBulk d:=by
 have c9:Tryz.prog.cellsOf 9=1:=by kernel_rfl
 have c26:Tryz.prog.cellsOf 61=1:=by kernel_rfl
 have c37:Tryz.prog.cellsOf 63=2:=by kernel_rfl
 obtain⟨fuel,hf⟩:=h
 rcases DataW.trod_slice Tryz.underlying39 hf with ⟨e2,d2⟩ | ⟨y,l,c,elems,rest,n', hn,e2,d2,_,hlc,hcm,hel,hes,_,_⟩
 ·exact k109
 ·simp[Value.cells] at e2
  obtain⟨rfl,rfl,rfl⟩:=e2;have hd0:d=.slice (elems.map (·.1)) (rest.map (·.1)):=congrArg (·.1) d2
  have each:∀i,i<len->∃(g:Grp) (a' : Option Addr) (len' cap' : Nat),W.cell? (y.add (i * 2))=some (.string g.1)/\W.cell? ((y.add (i * 2)).add 1)=some (.slice a' len' cap')/\Ints W a' len' g.2/\g.1.size<=9223372036854775807/\g.2.length<=Rows.uptoBulk d:=by
   intro i hi;have hq:=hes i hi;rw[zze oo,c37] at hq;obtain⟨cs', q1,q2⟩:=Option.bind_eq_some_iff.1 hq;obtain⟨_,_,hcell⟩:=World.cells?_some q1;obtain⟨xs,m,_,hxy,hlen,hxl,hfi⟩:=DataW.trod_struct Tryz.underlying63 q2;rw[c37] at hlen
   match xs,hxl,cs', hlen with
   | [y0,y1],_,[v0,v1],_=>
    have g0:=hfi 0 _ rfl;have g1:=hfi 1 _ rfl;simp[c9,c26] at g0 g1;obtain⟨s,e0,d0,hsz⟩:=DataW.trod_string Tryz.underlying9 g0;obtain⟨a', len', cap', zs,e1,hI,hbk⟩:=open_intsU g1;simp at e0 e1;subst e0 e1;have m0:=hcell 0 oo;rw[show (y.add (i * 2)).add 0=y.add (i * 2) from by obtain⟨b,o,sp⟩:=y;cases sp<;>simp[Addr.add]] at m0;refine⟨(s,zs),a', len', cap', m0,hcell 1 oo,hI,by unfold maxLen at hsz;exact hsz,?_⟩;have hz:=hI.1;(have hx1:(elems[i]'(by omega)).1=.agg [y0.1,y1.1]:=by rw[hxy];rfl);have hm:(elems[i]'(by omega)).1∈elems.map (·.1):=List.mem_map.2 ⟨_,List.getElem_mem _,rfl⟩;have hb1:=bulk_mem hm;rw[hx1] at hb1
    have hb2:Rows.uptoBulk y1.1+Rows.uptoBulk y0.1+1<=Rows.uptoBulk (.agg [y0.1,y1.1]:DataW H):=by
     (have e:Rows.uptoBulk (.agg [y0.1,y1.1]:DataW H)=Rows.uptoBulk y0.1+(Rows.uptoBulk y1.1+0)+1:=by simp only[Rows.uptoBulk,Rows.uptoBulkAll]);omega
    rw[hd0]
    have hb3:Rows.uptoBulkAll (elems.map (·.1))<=Rows.uptoBulk (.slice (elems.map (·.1)) (rest.map (·.1))):=by
     unfold Rows.uptoBulk;omega
    show zs.length<=_
    omega
  haveI:Inhabited Grp:=⟨(⟨#[]⟩,[])⟩
  obtain⟨Y,hY⟩:=Deep.choose_lt each;refine⟨(List.range len).map Y,⟨by simp,by unfold maxLen at hcm;omega,?_⟩,fun x hx=>?_⟩
  ·rcases Nat.eq_zero_or_pos len with h0 | h0
   ·exact .inl h0
   ·obtain⟨b,o,sp⟩:=y
    obtain rfl:sp=none:=by
     obtain⟨_,_,_,q,_⟩:=hY 0 h0
     have:=World.cell?_spot q
     simpa [Addr.add] using this
    refine .inr ⟨b,o,rfl,?_,fun i g hg=>?_⟩
    ·obtain⟨_,_,_,q,_⟩:=hY 0 h0
     exact k84
    ·have hi:i<len:=by
      have:=(zzc.1 hg).1
      simpa using this
     (obtain rfl:Y i=g:=by simpa [List.getElem?_map,List.getElem?_range hi] using hg);obtain⟨a', len', cap', q0,q1,q2,_⟩:=hY i hi;simp only[add_none] at q0 q1;exact⟨a', len', cap', q0,q1,q2⟩
  ·obtain⟨i,hi,rfl⟩:=List.mem_map.1 hx
   obtain⟨_,_,_,_,_,_,q1,q2⟩:=hY i (List.mem_range.1 hi);exact⟨q1,q2⟩
theorem open_specs {H:Type}{enc:TypeId×Value->H}{W:World}{a:Option Addr}{len cap:Nat}{d:DataW H}{p:List MemPlace}(h:DataW.Trod enc Tryz.prog W 0 (fun _=>true) true 38 (.slice a len cap) d p):∃l:List SpecD,Specs W a len l/\∀x∈l,x.name.size<=9223372036854775807/\x.expr.size<=9223372036854775807:=by
 have c9:Tryz.prog.cellsOf 9=1:=by kernel_rfl
 have c3:Tryz.prog.cellsOf 3=1:=by kernel_rfl
 have c4:Tryz.prog.cellsOf 4=1:=by kernel_rfl
 have c37:Tryz.prog.cellsOf 34=7:=by kernel_rfl
 obtain⟨fuel,hf⟩:=h
 rcases DataW.trod_slice Tryz.underlying38 hf with ⟨e2,d2⟩ | ⟨y,l,c,elems,rest,n', hn,e2,d2,_,hlc,hcm,hel,hes,_,_⟩
 ·exact k109
 ·simp[Value.cells] at e2
  obtain⟨rfl,rfl,rfl⟩:=e2
  have each:∀i,i<len->∃s:SpecD,(W.cell? (y.add (i * 7))=some (.string s.name)/\W.cell? ((y.add (i * 7)).add 1)=some (.string s.expr)/\W.cell? ((y.add (i * 7)).add 2)=some (.bool s.leaf)/\W.cell? ((y.add (i * 7)).add 3)=some (.int .i64 s.marks)/\W.cell? ((y.add (i * 7)).add 4)=some (.int .i64 s.least)/\W.cell? ((y.add (i * 7)).add 5)=some (.int .i64 s.most)/\W.cell? ((y.add (i * 7)).add 6)=some (.bool s.lines))/\s.name.size<=9223372036854775807/\s.expr.size<=9223372036854775807:=by
   intro i hi;have hq:=hes i hi;rw[zze oo,c37] at hq;obtain⟨cs', q1,q2⟩:=Option.bind_eq_some_iff.1 hq;obtain⟨_,_,hcell⟩:=World.cells?_some q1;obtain⟨xs,m,_,hxy,hlen,hxl,hfi⟩:=DataW.trod_struct Tryz.underlying34 q2;rw[c37] at hlen
   match xs,hxl,cs', hlen with
   | [y0,y1,y2,y3,y4,y5,y6],_,[v0,v1,v2,v3,v4,v5,v6],_=>
    have g0:=hfi 0 _ rfl;have g1:=hfi 1 _ rfl;have g2:=hfi 2 _ rfl;have g3:=hfi 3 _ rfl;have g4:=hfi 4 _ rfl;have g5:=hfi 5 _ rfl;have g6:=hfi 6 _ rfl;simp[c9,c3,c4] at g0 g1 g2 g3 g4 g5 g6;obtain⟨s0,e0,_,z0⟩:=DataW.trod_string Tryz.underlying9 g0;obtain⟨s1,e1,_,z1⟩:=DataW.trod_string Tryz.underlying9 g1;obtain⟨s2,e2,_⟩:=DataW.trod_bool Tryz.underlying4 g2;obtain⟨s3,e3,_,_⟩:=DataW.trod_int Tryz.underlying3 g3;obtain⟨s4,e4,_,_⟩:=DataW.trod_int Tryz.underlying3 g4;obtain⟨s5,e5,_,_⟩:=DataW.trod_int Tryz.underlying3 g5;obtain⟨s6,e6,_⟩:=DataW.trod_bool Tryz.underlying4 g6;simp at e0 e1 e2 e3 e4 e5 e6;subst e0 e1 e2 e3 e4 e5 e6;have m0:=hcell 0 oo;rw[show (y.add (i * 7)).add 0=y.add (i * 7) from by obtain⟨b,o,sp⟩:=y;cases sp<;>simp[Addr.add]] at m0;unfold maxLen at z0 z1;exact⟨⟨s0,s1,s2,s3,s4,s5,s6⟩,⟨m0,hcell 1 oo,hcell 2 oo,hcell 3 oo,hcell 4 oo,hcell 5 oo,hcell 6 oo⟩,z0,z1⟩
  haveI:Inhabited SpecD:=⟨zeroS⟩
  obtain⟨Y,hY⟩:=Deep.choose_lt each;refine⟨(List.range len).map Y,⟨by simp,by unfold maxLen at hcm;omega,?_⟩,fun x hx=>?_⟩
  ·rcases Nat.eq_zero_or_pos len with h0 | h0
   ·exact .inl h0
   ·obtain⟨b,o,sp⟩:=y
    obtain rfl:sp=none:=by
     obtain⟨⟨q,_⟩,_⟩:=hY 0 h0
     have:=World.cell?_spot q
     simpa [Addr.add] using this
    refine .inr ⟨b,o,rfl,?_,fun i g hg=>?_⟩
    ·obtain⟨⟨q,_⟩,_⟩:=hY 0 h0
     exact k84
    ·have hi:i<len:=by
      have:=(zzc.1 hg).1
      simpa using this
     (obtain rfl:Y i=g:=by simpa [List.getElem?_map,List.getElem?_range hi] using hg);obtain⟨⟨q0,q1,q2,q3,q4,q5,q6⟩,_⟩:=hY i hi;simp only[add_none] at q0 q1 q2 q3 q4 q5 q6;exact⟨q0,q1,q2,q3,q4,q5,q6⟩
  ·obtain⟨i,hi,rfl⟩:=List.mem_map.1 hx
   exact(hY i (List.mem_range.1 hi)).2
end Go.Proofs.YtjkebndkeamijaaGreatDoor
