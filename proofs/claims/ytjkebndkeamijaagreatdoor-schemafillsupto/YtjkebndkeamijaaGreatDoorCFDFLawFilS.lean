/-
  PROVED HERE: for every expression, types, groups and every number of bulk at most 2^20 SchemaFills answers true, and what lay before lies there unturned. Conditions: the bulk; math/bits.deBruijn32tab and errors.errorType hold what their own initialisers lay (tied to the text of the program by the given Tie).
-/
import Derived.Test.YtjkebndkeamijaaGreatDoorCF41
import Derived.Test.YtjkebndkeamijaaGreatDoorCFDFOpenS
namespace Go.Proofs.YtjkebndkeamijaaGreatDoor.schemaFills
open Go.ChangeShapes Go.WideShapes Go.ChangeAt Go.ChangeMaps Go.RowKit
set_option maxRecDepth 100000 in
theorem contract (H:Type)(enc:TypeId×Value->H)(W:World)(base:Nat)(args:Array Value)(ds gs:List (DataW H))(before:List MemPlace)
  (hval:∀(j:Nat) t v,Tryz.f5.params[j]? = some t->args[j]? = some v->Value.okWide Tryz.prog W .any base t v)
  (hW:DataW.Whole enc Tryz.prog Tryz.f5.params.toList Rows.schemaFillsSpec.vars false W args.toList ds gs before)(hL:laidMetH Tryz.prog listedB W)(hk:Rows.uptoSmall H (ds++gs)=true) :
  Calls Tryz.prog 5 args W fun e W' => ∃v,e=.returned v/\Rows.schemaFillsSpec.post enc Tryz.prog Tryz.f5 false true false false W args v W' := by
 have hW' := hW
 obtain⟨p,q,hA0,hV,rfl,hfz,hnd⟩:=hW
 have hA:DataW.TrodAll enc Tryz.prog W 0 (fun _=>true) true Tryz.f5.params.toList args.toList ds p:=hA0
 rw[Tryz.params5] at hA hval
 obtain⟨v0,vs0,d0,ds0,p0,q0,hargs,rfl,rfl,h0,r0⟩:=trodAll_cons hA
 obtain⟨v1,vs1,d1,ds1,p1,q1,rfl,rfl,rfl,h1,r1⟩:=trodAll_cons r0
 obtain⟨v2,vs2,d2,ds2,p2,q2,rfl,rfl,rfl,h2,r2⟩:=trodAll_cons r1
 obtain⟨v3,vs3,d3,ds3,p3,q3,rfl,rfl,rfl,h3,r3⟩:=trodAll_cons r2
 obtain⟨rfl,rfl,rfl⟩:=trodAll_nil r3
 obtain rfl:args=#[v0,v1,v2,v3]:=by cases args;simp_all
 obtain⟨rfl,rfl⟩:=trodVars_none hV
 have hk' : Rows.uptoBulkAll ([d0,d1,d2,d3]++[])<=1048576:=of_decide_eq_true hk
 simp only[List.append_nil,Rows.uptoBulkAll] at hk'
 obtain⟨s0,rfl,rfl,rfl,z0⟩:=open_string Tryz.underlying9 (hval 0 9 v0 rfl rfl) h0
 obtain⟨a1,len1,cap1,rfl⟩:=okWide_slice Tryz.underlying38 (hval 1 38 v1 rfl rfl)
 have lt1:∀x∈p1,x.block<W.heap.size:=by obtain⟨m,hm⟩:=h1;exact DataW.trod_lt m _ _ _ hm
 obtain⟨l1,w1,f1⟩:=open_specs h1
 obtain⟨a2,len2,cap2,rfl⟩:=okWide_slice Tryz.underlying39 (hval 2 39 v2 rfl rfl)
 have lt2:∀x∈p2,x.block<W.heap.size:=by obtain⟨m,hm⟩:=h2;exact DataW.trod_lt m _ _ _ hm
 obtain⟨x2,w2,f2⟩:=open_groupsU h2
 obtain⟨a3,rfl,rfl,rfl,w3⟩:=open_int Tryz.underlying3 (hval 3 3 v3 rfl rfl) h3
 clear hA0
 refine(fills_walk s0 a1 len1 cap1 l1 a2 len2 cap2 x2 a3 W (by unfold maxLen at z0;omega) w1 w2 f1 (fun x hx=>⟨(f2 x hx).1,by have:=(f2 x hx).2;omega⟩) (tab_of_laidB hL) (tab_size (tab_of_laidB hL)) (ety_of_laidB hL)).mono fun e W' ⟨he,bel⟩=>?_
 subst he
 exact⟨_,rfl,_,_,_,[],_,[],hW', trodAll_mk1 (shut_bool Tryz.underlying4 _),(trodAll_cons_mk (shut_string Tryz.underlying9 z0) (trodAll_cons_mk (Below.trod laidOut kr (of_decide_eq_true kr) h1 bel lt1) (trodAll_cons_mk (Below.trod laidOut kr (of_decide_eq_true kr) h2 bel lt2) (trodAll_cons_mk (shut_int Tryz.underlying3 w3) trodAll_mk0)))),rfl,bel.frame _,fun h=>by cases h⟩
theorem reads (os:Os){H:Type}(enc:TypeId×Value->H):∃places,DataW.whole enc Tryz.prog ((laidWorldB os).forCall (fun _ _=>0) ⟨#[],#[.string ⟨#[]⟩,.slice none 0 0,.slice none 0 0,.int .i64 0],[]⟩).memory Tryz.f5.params.toList Rows.schemaFillsSpec.vars false (#[.string ⟨#[]⟩,.slice none 0 0,.slice none 0 0,.int .i64 0]:Array Value).toList 8=some ([.lit (.string []),.nil,.nil,.lit (.int .i64 0)],[],places) :=
 ⟨[],by kernel_rfl⟩
set_option maxRecDepth 100000 in
theorem lifted (os:Os)(started:os.Started)(H:Type)(enc:TypeId×Value->H)(F:Stop.Interp) :
  ReturnsInHanded {} Tryz.checked os 5 .any ((Rows.OpenSpec.upto Rows.schemaFillsSpec).preRow enc Tryz.prog Tryz.f5 Rows.schemaFillsUptoRow.domain false Rows.schemaFillsUptoRow.laid) (((Rows.OpenSpec.upto Rows.schemaFillsSpec).at F).post enc Tryz.prog Tryz.f5 false true false false):=by
 obtain⟨places,hx⟩:=reads os enc
 refine returnsInHanded_of_row (C:=Tryz.checked) (s:=Rows.OpenSpec.upto Rows.schemaFillsSpec) own started kr Tryz.func5
  (witness_row_at (enc:=enc) (C:=Tryz.checked) false (laidWorldB os) #[.string ⟨#[]⟩,.slice none 0 0,.slice none 0 0,.int .i64 0] rfl kr kr kr
   (OpenSpec.preRow_of_cond 8 hx kr (fun k hk=>by cases hk;kernel_rfl) kr (laid_metB os _))) ?_
 intro W base args ds gs before hval hW _ hcond _ hL _ _
 exact contract H enc W base args ds gs before hval hW hL (hcond _ rfl)
theorem said:Rows.SchemaFillsUptoSaid :=
 OpenClaim.holds_of_cond 5 Tryz.f5 rfl rfl rfl rfl rfl rfl rfl ⟨rfl,rfl,rfl,rfl,rfl⟩ rfl rfl rfl rfl rfl kr Tryz.func5 kr
  (of_decide_eq_true kr) (by unfold Func.isWrapper;first | (rw[if_pos (by decide +kernel)];kernel_rfl) | (rw[if_neg (by decide +kernel)];exact⟨rfl,rfl⟩))
  (fun os started H enc _ F=>by rw[OpenClaim.pre_eq_preRow];exact lifted os started H enc F)
set_option maxRecDepth 100000 in
theorem plain (f : FuncId)(fn : Func)(hf : Tryz.pinned.checked.prog.funcNamed "emender/emenderlaw07.SchemaFills" = some f)(hfn : Tryz.pinned.checked.prog.funcs[f]? = some fn) :
  true=Tryz.pinned.checked.prog.looks []/\∀(j:Nat) t,fn.params[j]? = some t->Tryz.pinned.checked.prog.wantsStandIn t=false:=by
 obtain rfl : f = 5 := zzo ((show Tryz.prog.funcNamed "emender/emenderlaw07.SchemaFills" = some 5 by kernel_rfl).symm.trans hf) |>.symm
 obtain rfl:fn=Tryz.f5:=(zzo (Tryz.func5.symm.trans hfn)).symm
 refine⟨by kernel_rfl,fun j t ht=>?_⟩
 rw[Tryz.params5] at ht
 have hm:t∈(#[9,38,39,3]:Array TypeId):=Array.mem_of_getElem? ht
 simp only[List.mem_toArray,List.mem_cons,List.not_mem_nil,or_false] at hm
 rcases hm with rfl | rfl | rfl | rfl
 all_goals first | exact(show Tryz.prog.wantsStandIn 39=false by kernel_rfl) | exact(show Tryz.prog.wantsStandIn 38=false by kernel_rfl) | exact(show Tryz.prog.wantsStandIn 3=false by kernel_rfl) | exact(show Tryz.prog.wantsStandIn 9=false by kernel_rfl)
theorem card:Rows.SchemaFillsUptoCardSaid :=
 Claim7.holds_tied_plain_at .later [] _ _ _ _ said (fun _ h=>by cases h) kr (fun _ h=>by cases h) schemaFillsUpto_row_tie rfl ⟨rfl,rfl⟩ kr rfl plain kr
end Go.Proofs.YtjkebndkeamijaaGreatDoor.schemaFills
namespace Go.Proofs.YtjkebndkeamijaaGreatDoor
theorem SchemaFills_holds:Rows.SchemaFillsUptoCardSaid:=schemaFills.card
end Go.Proofs.YtjkebndkeamijaaGreatDoor
