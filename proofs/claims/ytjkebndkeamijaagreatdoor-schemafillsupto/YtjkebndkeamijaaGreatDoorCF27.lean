/-
  PROVED HERE: what the texts DFTwice, DFReadA, DFKindsF say.
-/
import Derived.Test.YtjkebndkeamijaaGreatDoorCF26
set_option maxRecDepth 100000
set_option maxHeartbeats 1600000
namespace Go.Proofs.YtjkebndkeamijaaGreatDoor
open Go.RowKit
def allN (l:List SpecD)(gs:List Grp):List ByteArray:=l.map (·.name)++gs.map (·.1)
def strsV (ns:List ByteArray):List Value:=ns.map Value.string
def FineN (ns:List ByteArray)(j:Nat):Prop:=∀x,ns[j]? = some x->letters x=true/\(x.toList==textB.toList)=false/\∀k y,k<j->ns[k]? = some y->(y.toList==x.toList)=false
theorem specNames_names:∀(l:List SpecD) (i:Nat),(specNames i l).map (·.1)=l.map (·.name):=by
 intro l
 induction l with
 | nil=>intro i;rfl
 | cons s r ih=>intro i;rw[specNames,List.map_cons,List.map_cons,ih]
theorem names_all (l:List SpecD)(gs:List Grp):(namesD l gs).map (·.1)=textB::allN l gs:=by
 unfold namesD allN
 rw[List.map_cons,List.map_append,specNames_names]
theorem at_name {gs:List Grp}{ns:List ByteArray}(h:gs.map (·.1)=ns)(j:Nat)(x:ByteArray):ns[j]? = some x↔∃g,gs[j]? = some g/\g.1=x:=by
 rw[<-h,List.getElem?_map]
 cases gs[j]? with
 | none=>simp
 | some g=>simp
theorem letters_text:letters textB=true:=by kernel_rfl
theorem fine_right (l:List SpecD)(gs:List Grp):RightN (namesD l gs)↔∀j,FineN (allN l gs) j:=by
 have hn:=names_all l gs
 have hat:=fun j x=>at_name hn j x
 unfold RightN FineN nameIn
 constructor
 ·intro h j x hx
  obtain⟨g,hg,rfl⟩:=(hat (j+1) x).1 (by rw[List.getElem?_cons_succ];exact hx);obtain⟨h1,h2⟩:=h (j+1) g hg;refine⟨h1,?_,fun k y hk hy=>?_⟩
  ·obtain⟨t,ht,ht2⟩:=(hat 0 textB).1 rfl
   cases e:(g.1.toList==textB.toList) with
   | false=>rfl
   | true=>
    refine absurd ⟨0,t,oo,ht,?_⟩ h2;rw[ht2];rw[beq_iff_eq] at e ⊢;exact e.symm
  ·obtain⟨t,ht,ht2⟩:=(hat (k+1) y).1 (by rw[List.getElem?_cons_succ];exact hy)
   cases e:(y.toList==g.1.toList) with
   | false=>rfl
   | true=>exact absurd ⟨k+1,t,oo,ht,by rw[ht2];exact e⟩ h2
 ·intro h i g hg
  have hx:=(hat i g.1).2 ⟨g,hg,rfl⟩;cases i with
  | zero=>
   rw[List.getElem?_cons_zero] at hx;rw[<-zzo hx];exact⟨letters_text,fun ⟨j,_,hj,_⟩=>by omega⟩
  | succ i=>
   rw[List.getElem?_cons_succ] at hx;obtain⟨h1,h2,h3⟩:=h i g.1 hx;refine⟨h1,fun ⟨j,y,hj,hy,he⟩=>?_⟩;have hyx:=(hat j y.1).2 ⟨y,hy,rfl⟩;cases j with
   | zero=>
    rw[List.getElem?_cons_zero] at hyx;rw[<-zzo hyx] at he;rw[beq_iff_eq] at he;rw[he] at h2;simp at h2
   | succ j=>
    rw[List.getElem?_cons_succ] at hyx;rw[h3 j y.1 oo hyx] at he;cases he
theorem infoStr:(Tryz.prog.info? 9).map (fun i=>(i.zero,i.size,i.bytes))=some (some (.string ⟨#[]⟩),1,16):=by kernel_rfl
theorem strs_put {base:Nat}{W:World}{v:Value}{ns:List ByteArray}{n:Nat}(hn:ns.length=n)(h:W.ownsRow base 9 1 v n (strsV ns))(x:ByteArray)(hlen:n<=1000)(hbase:base<=W.heap.size)(b:Nat)(hc:W.heap[b]? = some (.cells #[.string x] 9 (0,0))) :
  ∃g' cap' W1,(Builtin.append_ #[137,137] 137 #[v,.slice (some ⟨b,0,none⟩) 1 1]).run Tryz.prog W=.ok (.slice (some ⟨g', 0,none⟩) (n+1) cap') W1/\W1.ownsRow base 9 1 (.slice (some ⟨g', 0,none⟩) (n+1) cap') (n+1) (strsV (ns++[x]))/\W.grownBy W1 v.ownBlock:=by
 obtain⟨i0,hi,hz0,hz1,hz2⟩:=info_parts infoStr
 obtain⟨v', W1,hrun,r1,r2,_,_⟩:=run_append_own_at (P:=Tryz.prog) W base 137 137 9 i0 _ 1 16 Tryz.underlying137 hi hz0 hz1 hz2 rfl (by decide) v n _ h ⟨b,0,none⟩ 1 1 [.string x] rfl (fun j u hj=>by
  have hc0:=cell_of_row W b 0 _ _ _ hc
  match j,hj with
  | 0,hj=>cases hj;exact hc0
  | j+1,hj=>simp at hj) (fun u hu=>by rw[List.mem_singleton] at hu;subst hu;rfl) (by unfold maxLen;omega) oo hbase
 have e1:strsV ns++[.string x]=strsV (ns++[x]):=by unfold strsV;rw[List.map_append];rfl
 rw[e1] at r1
 obtain⟨g,cap', rfl,_⟩:=owns_cell r1 (Nat.succ_pos _)
 exact⟨g,cap', W1,hrun,r1,r2⟩
theorem strs_next {w wr:World}{v:Value}{ns:List ByteArray}{n:Nat}(hn:ns.length=n)(h:wr.ownsRow w.heap.size 9 1 v n (strsV ns))(x:ByteArray)(hlen:n<=1000)(hB:Below w.heap.size w wr) :
  ∃g' cap' W1,(Builtin.append_ #[137,137] 137 #[v,.slice (some ⟨wr.heap.size,0,none⟩) 1 1]).run Tryz.prog (wr.alloc (.cells #[.string x] 9))=.ok (.slice (some ⟨g', 0,none⟩) (n+1) cap') W1/\W1.ownsRow w.heap.size 9 1 (.slice (some ⟨g', 0,none⟩) (n+1) cap') (n+1) (strsV (ns++[x]))/\Below w.heap.size w W1:=by
 have hBa:Below w.heap.size w (wr.alloc (.cells #[.string x] 9)):=hB.alloc hB.size _
 obtain⟨g', cap', W1,h1,h2,h3⟩:=strs_put hn (World.ownsRow.alloc h (.cells #[.string x] 9)) x hlen hBa.size wr.heap.size (World.alloc_heap_new wr _)
 exact⟨g', cap', W1,h1,h2,hBa.grown h3 hBa.size (fun k e=>owned_base h e)⟩
theorem strs_at {w:World}{base:Nat}{v:Value}{n:Nat}{ns:List ByteArray}(h:w.ownsRow base 9 1 v n (strsV ns)){i:Nat}{x:ByteArray}(hx:ns[i]? = some x)(hi:i<n):∃g cap,v=.slice (some ⟨g,0,none⟩) n cap/\w.cell? ⟨g,i,none⟩=some (.string x):=by
 obtain⟨g,cap,e,hc⟩:=owns_cell h oo
 exact⟨g,cap,e,hc i _ (by unfold strsV;rw[List.getElem?_map,hx];rfl)⟩
theorem k86{p:Prop}(h:p:=by
  (go_wp2_with fail);refine HL1.mono ?_;rintro e W ⟨rfl,rfl⟩;clear HL1;go_wp2;go_ret;exact⟨true,rfl,iff_of_true rfl HNO.out,HE.out⟩
  ):p:=h
theorem twice_calls (a:Option Addr)(len cap:Nat)(l:List SpecD)(ga:Option Addr)(gl gc:Nat)(gs:List Grp)(w:World)(hl:Specs w a len l)(hG:Groups w ga gl gs)(hsz:len<=15)(hgz:gl<=16)(hls:∀x∈l,x.name.size<=9223372036854775807)(hgs:∀x∈gs,x.1.size<=9223372036854775807) :
  Calls Tryz.prog 58 #[.slice a len cap,.slice ga gl gc] w fun e w' => ∃r:Bool,e=.returned (.bool r)/\(r=true↔¬RightN (namesD l gs))/\Below w.heap.size w w' := by
 have HS:Hid (∀(X:World) (i:Nat),Below w.heap.size w X->i<len->∃b o x,a=some ⟨b,o,none⟩/\l[i]? = some x/\SpecAt X b (o+i * 7) x):=fun X i hX hi=>by
  obtain⟨b,o,x,h1,_,h2,h3⟩:=hl.at hi;exact⟨b,o,x,h1,h2,h3 X hX⟩
 have HGG:Hid (∀(X:World) (i:Nat),Below w.heap.size w X->i<gl->∃b o x,ga=some ⟨b,o,none⟩/\gs[i]? = some x/\X.cell? ⟨b,o+i * 2,none⟩=some (.string x.1)):=fun X i hX hi=>by
  obtain⟨b,o,x,ta,tl,tc,h1,h2,h3,h4⟩:=hG.at hi;exact⟨b,o,x,h1,h2,(h4 X hX).1⟩
 have HLL:Hid (l.length=len/\gs.length=gl):=⟨hl.1,hG.1⟩
 have HNN:Hid (∀x∈allN l gs,x.size<=9223372036854775807):=fun x hx=>by
  unfold allN at hx;rcases List.mem_append.1 hx with hx | hx
  ·obtain⟨y,hy,rfl⟩:=List.mem_map.1 hx
   exact hls y hy
  ·obtain⟨y,hy,rfl⟩:=List.mem_map.1 hx
   exact hgs y hy
 have HFR:=Hid.mk_ (fine_right l gs)
 have hsi:(len:Int)<=15:=by omega
 have hgi:(gl:Int)<=16:=by omega
 have HO0:Hid (w.ownsRow w.heap.size 9 1 (.slice none 0 0) 0 (strsV [])):=World.ownsRow_nil ..
 have HLT:Hid (∀(X:World) (s:ByteArray),s.size<=9223372036854775807->Calls Tryz.prog 93 #[.string s] X fun e w' => e=.returned (.bool (letters s))/\w' = X):=fun X s hs=>letters_calls s X hs
 clear hl hG hls hgs
 go_enter Tryz.func58,Tryz.ntmps58
 go_wp2
 go_loopg [5,6] (len+1) (fun gk u v wr=>∃(i:Nat) (ua:Option Addr) (uc:Nat),i<=len/\len<i+gk/\u=.slice ua i uc/\v=.int .i64 (i:Int)/\wr.ownsRow w.heap.size 9 1 (.slice ua i uc) i (strsV ((l.take i).map (·.name)))/\Below w.heap.size w wr)
 case atStart=>exact⟨0,none,0,zzn _,oo,rfl,rfl,HO0.out,zzd _ _⟩
 case round=>
  obtain⟨i,ua,uc,hi,hgk,rfl,rfl,hown,hB⟩:=hrel;clear HO0
  by_cases hlt:i<len
  ·obtain⟨b,o,x,rfl,hx,c0,c1,c2,c3,c4,c5,c6⟩:=HS.out wr i hB hlt
   (have hii:(i:Int)<(len:Int):=by omega);(have hi0:(0:Int)<=(i:Int):=by omega);(have hd:decide ((i:Int)<(len:Int))=true:=by simpa using hii);obtain⟨g', cap', W1,hrun,hown', hBW⟩:=strs_next (by rw[List.length_map,List.length_take];have:=HLL.out.1;omega) hown x.name oo hB
   have HN:Hid (W1.ownsRow w.heap.size 9 1 (.slice (some ⟨g', 0,none⟩) (i+1) cap') (i+1) (strsV ((l.take (i+1)).map (·.name)))/\Below w.heap.size w W1):=by
    refine⟨?_,hBW⟩;rw[List.take_add_one,hx,List.map_append];exact hown'
   have HRUN:=Hid.mk_ hrun;clear hown hB hBW hown' hrun HS hx
   go_wp2_with (first
    | (at_builtin;refine wpList_run_append rfl (.tmp 16) (.tmp 22) 137 rfl _ _ _ _ rfl rfl HRUN.out ?_)
    | fail)
   go_roundg (len - i)
   case measure=>omega
   case rel=>exact⟨i+1,some ⟨g', 0,none⟩,cap', by omega,oo,rfl,by first | rfl | go_num,HN.out⟩
  ·obtain rfl:i=len:=by omega
   have hd:decide ((i:Int)<(i:Int))=false:=by simp
   have HI0:Hid (wr.ownsRow w.heap.size 9 1 (.slice ua (i+0) uc) (i+0) (strsV (l.map (·.name)++(gs.take 0).map (·.1)))/\Below w.heap.size w wr):=by
    rw[zzm (by have:=HLL.out.1;omega)] at hown;refine⟨?_,hB⟩;rw[List.take_zero,List.map_nil,List.append_nil];exact hown
   clear hown hB HS hgk;go_wp2
   go_loopg [5,7] (gl+1) (fun gk u v wr=>∃(j:Nat) (ua:Option Addr) (uc:Nat),j<=gl/\gl<j+gk/\u=.slice ua (i+j) uc/\v=.int .i64 (j:Int)/\wr.ownsRow w.heap.size 9 1 (.slice ua (i+j) uc) (i+j) (strsV (l.map (·.name)++(gs.take j).map (·.1)))/\Below w.heap.size w wr)
   case atStart=>exact⟨0,ua,uc,zzn _,oo,rfl,rfl,HI0.out⟩
   case round=>
    clear HI0;obtain⟨j,ua,uc,hj,hgk,rfl,rfl,hown,hB⟩:=hrel
    by_cases hlt2:j<gl
    ·obtain⟨b,o,x,rfl,hx,c0⟩:=HGG.out wr j hB hlt2
     (have hii:(j:Int)<(gl:Int):=by omega);(have hj0:(0:Int)<=(j:Int):=by omega);(have hd2:decide ((j:Int)<(gl:Int))=true:=by simpa using hii);obtain⟨g', cap', W1,hrun,hown', hBW⟩:=strs_next (by rw[List.length_append,List.length_map,List.length_map,List.length_take];have:=HLL.out.1;have:=HLL.out.2;omega) hown x.1 oo hB
     have HN:Hid (W1.ownsRow w.heap.size 9 1 (.slice (some ⟨g', 0,none⟩) (i+(j+1)) cap') (i+(j+1)) (strsV (l.map (·.name)++(gs.take (j+1)).map (·.1)))/\Below w.heap.size w W1):=by
      refine⟨?_,hBW⟩;rw[List.take_add_one,hx,List.map_append,<-List.append_assoc];exact hown'
     have HRUN:=Hid.mk_ hrun;clear hown hB hBW hown' hrun HGG hx
     go_wp2_with (first
      | (at_builtin;refine wpList_run_append rfl (.tmp 30) (.tmp 36) 137 rfl _ _ _ _ rfl rfl HRUN.out ?_)
      | fail)
     go_roundg (gl - j)
     case measure=>omega
     case rel=>exact⟨j+1,some ⟨g', 0,none⟩,cap', by omega,oo,rfl,by first | rfl | go_num,HN.out⟩
    ·obtain rfl:j=gl:=by omega
     (have hd2:decide ((j:Int)<(j:Int))=false:=by simp);obtain⟨nn,hnn⟩:∃nn,i+j=nn:=⟨_,rfl⟩;(have hnb:nn<=31:=by omega);have hALL:(allN l gs).length=nn:=by unfold allN;rw[List.length_append,List.length_map,List.length_map];have:=HLL.out;omega
     have hown2:wr.ownsRow w.heap.size 9 1 (.slice ua nn uc) nn (strsV (allN l gs)):=by
      rw[zzm (by have:=HLL.out.2;omega),hnn] at hown;exact hown
     rw[hnn]
     have HROW:Hid (∀X,Below wr.heap.size wr X->∀k,k<nn->∃g x,ua=some ⟨g,0,none⟩/\(allN l gs)[k]? = some x/\X.cell? ⟨g,k,none⟩=some (.string x)/\x.size<=9223372036854775807):=fun X hX k hk=>by
      obtain⟨x,hx⟩:∃x,(allN l gs)[k]? = some x:=⟨_,zze oo⟩;obtain⟨g,cp,e,hc⟩:=strs_at hown2 hx hk;(injection e with e1);refine⟨g,x,e1,hx,?_,HNN.out x (zzj hx)⟩;have hgl:=(owns_lt hown2 (g:=g) (by rw[e1];rfl)).1;rw[zzi (hX.block g hgl)];exact hc
     have HBw:=Hid.mk_ hB;(have hni:(nn:Int)<=31:=by omega);have HAL:=Hid.mk_ hALL;obtain⟨W0,rfl⟩:∃W0,W0=wr:=⟨wr,rfl⟩;clear hown hown2 hB HGG HLL HNN hsi hgi hsz hgz hnn hgk hALL hi hj hd hd2 hlt hlt2;go_wp2
     go_loopg [8] (nn+1) (fun gk v wq=>∃j:Nat,j<=nn/\nn<j+gk/\v=.int .i64 (j:Int)/\(∀k,k<j->FineN (allN l gs) k)/\Below W0.heap.size W0 wq)
     case atStart=>exact⟨0,zzn _,oo,rfl,fun k hk=>absurd hk (Nat.not_lt_zero _),zzd _ _⟩
     case round=>
      obtain⟨j,hj,hgk,rfl,hfine,hBq⟩:=hrel
      by_cases hlt:j<nn
      ·obtain⟨g,x,rfl,hx,c0,hxs⟩:=HROW.out wr hBq j hlt
       (have hii:(j:Int)<(nn:Int):=by omega);(have hj0:(0:Int)<=(j:Int):=by omega);(have hd:decide ((j:Int)<(nn:Int))=true:=by simpa using hii);have HL1:=HLT.out wr x hxs;have HE:Hid (Below w.heap.size w wr):=HBw.out.trans (hBq.mono HBw.out.size);have HX:=Hid.mk_ hx;have HFI:=Hid.mk_ hfine;have HBQ:=Hid.mk_ hBq;cases hle:letters x with
       | false=>
        rw[hle] at HL1
        have HNO:Hid (¬RightN (namesD l gs)):=fun hr=>by
         have:=((HFR.out.1 hr) j x HX.out).1
         rw[hle] at this;cases this
        clear HLT HFI HBQ HX hBq hfine hx;exact k86
       | true=>
        rw[hle] at HL1;(have htx:textB.toList=[116,101,120,116]:=by kernel_rfl);cases hte:(x.toList==[116,101,120,116]) with
        | true=>
         have HNO:Hid (¬RightN (namesD l gs)):=fun hr=>by
          have:=((HFR.out.1 hr) j x HX.out).2.1
          rw[htx,hte] at this;cases this
         clear HLT HFI HBQ HX hBq hfine hx htx;exact k86
        | false=>
         (have HTX:Hid ((x.toList==textB.toList)=false):=by rw[htx];exact hte);have HLE:=Hid.mk_ hle;clear HLT hBq hfine hx htx hle;(go_wp2_with fail);refine HL1.mono ?_;rintro e W ⟨rfl,rfl⟩;clear HL1;obtain⟨W1,rfl⟩:∃W1,W1=W:=⟨W,rfl⟩;go_wp2
         go_loopg [9] (j+1) (fun gk v wq=>∃k:Nat,k<=j/\j<k+gk/\v=.int .i64 (k:Int)/\(∀q y,q<k->(allN l gs)[q]? = some y->(y.toList==x.toList)=false)/\Below W0.heap.size W0 wq)
         case atStart=>exact⟨0,zzn _,oo,rfl,fun q y hq=>absurd hq (Nat.not_lt_zero _),HBQ.out⟩
         case round=>
          clear c0 HBQ HE hte;obtain⟨k,hk,hgk2,rfl,hno,hBr⟩:=hrel
          by_cases hlt2:k<j
          ·obtain⟨g1,x1,e1,hx1,c0,_⟩:=HROW.out wr hBr j hlt
           obtain⟨g2,y,e2,hy,c1,_⟩:=HROW.out wr hBr k oo;cases e1;cases e2;obtain rfl:x=x1:=zzo (HX.out.symm.trans hx1);(have hkk:(k:Int)<(j:Int):=by omega);(have hk0:(0:Int)<=(k:Int):=by omega);(have hkn:(k:Int)<(nn:Int):=by omega);(have hd3:decide ((k:Int)<(j:Int))=true:=by simpa using hkk);cases heq:(y.toList==x.toList) with
           | true=>
            have HNO:Hid (¬RightN (namesD l gs)):=fun hr=>by
             have:=((HFR.out.1 hr) j x HX.out).2.2 k y hlt2 hy
             rw[heq] at this;cases this
            have HE:Hid (Below w.heap.size w wr):=HBw.out.trans (hBr.mono HBw.out.size);clear hno hBr HFI HX hx1 hy HROW;go_wp2_with fail
            go_quiet (fail)
            go_wp2;go_ret;exact⟨true,rfl,iff_of_true rfl HNO.out,HE.out.os,HE.out.tape,HE.out.output,HE.out.size,HE.out.block⟩
           | false=>
            have HNX:Hid (∀q y,q<k+1->(allN l gs)[q]? = some y->(y.toList==x.toList)=false):=fun q z hq hz=>by
             by_cases e:q=k
             ·subst e
              rw[hy] at hz;cases hz;exact heq
             ·exact hno q z oo hz
            have HBR:=Hid.mk_ hBr;clear hno hBr HFI HX hx1 hy HROW;go_wp2_with fail
            go_quiet (fail)
            go_wp2
            go_roundg (j - k)
            case measure=>omega
            case rel=>exact⟨k+1,oo,oo,by first | rfl | go_num,HNX.out,HBR.out.os,HBR.out.tape,HBR.out.output,HBR.out.size,HBR.out.block⟩
          ·obtain rfl:k=j:=by omega
           have hd3:decide ((k:Int)<(k:Int))=false:=by simp
           have HNX:Hid (∀q,q<k+1->FineN (allN l gs) q):=fun q hq=>by
            by_cases e:q=k
            ·subst e
             intro z hz;obtain rfl:=zzo (HX.out.symm.trans hz);exact⟨HLE.out,HTX.out,fun p y hp hy=>hno p y hp hy⟩
            ·exact HFI.out q oo
           have HBR:=Hid.mk_ hBr;clear hno hBr HFI HX HROW;go_wp2
           go_roundg (nn - k)
           case measure=>omega
           case rel=>exact⟨k+1,oo,oo,by first | rfl | go_num,HNX.out,HBR.out⟩
      ·obtain rfl:j=nn:=by omega
       (have hd:decide ((j:Int)<(j:Int))=false:=by simp);have HE:Hid (RightN (namesD l gs)/\Below w.heap.size w wr):=⟨HFR.out.2 fun k x hx=>hfine k (by have:=(zzc.1 hx).1;have:=HAL.out;omega) x hx,HBw.out.trans (hBq.mono HBw.out.size)⟩;clear hfine hBq HROW HLT;go_wp2;go_ret;exact⟨false,rfl,iff_of_false (by simp) (fun h=>h HE.out.1),HE.out.2⟩
def firstE:List ByteArray->List Grp->Int
 | [],_=>0
 | s::r,gs=>if readE s gs≠0 then readE s gs else firstE r gs
theorem firstE_at:∀(ss:List ByteArray) (gs:List Grp) (i:Nat) (s:ByteArray),ss[i]? = some s->(∀(j:Nat) (q:ByteArray),j<i->ss[j]? = some q->readE q gs=0)->readE s gs≠0->firstE ss gs=readE s gs:=by
 intro ss gs
 induction ss with
 | nil=>intro i s h;simp at h
 | cons x r ih=>
  intro i s h hz hne;cases i with
  | zero=>
   simp only[List.getElem?_cons_zero,Option.some.injEq] at h;subst h;rw[firstE,if_pos hne]
  | succ i=>
   rw[List.getElem?_cons_succ] at h;rw[firstE,if_neg (by rw[hz 0 x oo rfl];simp)];exact ih i s h (fun j q hj hq=>hz (j+1) q oo (by rw[List.getElem?_cons_succ];exact hq)) hne
theorem firstE_zero:∀(ss:List ByteArray) (gs:List Grp),(∀(j:Nat) (q:ByteArray),ss[j]? = some q->readE q gs=0)->firstE ss gs=0:=by
 intro ss gs
 induction ss with
 | nil=>intro _;rfl
 | cons x r ih=>
  intro hz;rw[firstE,if_neg (by rw[hz 0 x rfl];simp)];exact ih (fun j q hq=>hz (j+1) q (by rw[List.getElem?_cons_succ];exact hq))
structure RdI (base:Nat) (w0:World) (B g c ng nc:Nat) (xs:List GrpD) (ss:List ByteArray) (sp:List SpecD) (wr:World) (ks:List KindD) (m:Nat):Prop where
 sch:wr.heap[B]? = some (.cells #[.slice (some ⟨g,0,none⟩) ks.length c,.slice (some ⟨ng,0,none⟩) xs.length nc] 86 (0,0))
 row:wr.ownsRow base 81 10 (.slice (some ⟨g,0,none⟩) ks.length c) ks.length (flatK ks)
 nms:Nms base wr (.slice (some ⟨ng,0,none⟩) xs.length nc) xs
 spec:ks.map (·.1)=sp
 tree:∀(j:Nat) (x:KindD) (s:ByteArray),j<m->ks[j]? = some x->ss[j]? = some s->ExA (fun b=>b≠g) wr 200 (outTree s) (rawV x.2)
 zero:∀(j:Nat) (s:ByteArray),j<m->ss[j]? = some s->readE s (xs.map plainG)=0
 grown:w0.grownBy wr (some g)
 ety:ETy wr
theorem RdI.cells {base:Nat}{w0:World}{B g c ng nc:Nat}{xs:List GrpD}{ss:List ByteArray}{sp:List SpecD}{wr:World}{ks:List KindD}{m:Nat}(h:RdI base w0 B g c ng nc xs ss sp wr ks m):wr.cell? ⟨B,0,none⟩=some (.slice (some ⟨g,0,none⟩) ks.length c)/\wr.cell? ⟨B,1,none⟩=some (.slice (some ⟨ng,0,none⟩) xs.length nc):=by
 have hc:=fun j=>cell_of_row wr B j _ _ _ h.sch
 exact⟨hc 0,hc 1⟩
theorem RdI.expr {base:Nat}{w0:World}{B g c ng nc:Nat}{xs:List GrpD}{ss:List ByteArray}{sp:List SpecD}{wr:World}{ks:List KindD}{m:Nat}(h:RdI base w0 B g c ng nc xs ss sp wr ks m){i:Nat}{x:KindD}(hx:ks[i]? = some x):wr.cell? ⟨g,i * 10+1,none⟩=some (.string x.1.expr):=((kinds_at h.row).2 i x hx).2.1
theorem k75{p:Prop}(h:p:=by
  injection e with e
  subst e
  have:=h.sch
  rw[hcur] at this;(injection this with this);(injection this with _ t2 _);exact absurd t2 (by decide)
  ):p:=h
theorem RdI.next {base:Nat}{w0:World}{B g c ng nc:Nat}{xs:List GrpD}{ss:List ByteArray}{sp:List SpecD}{wr Y:World}{ks:List KindD}{m:Nat}(h:RdI base w0 B g c ng nc xs ss sp wr ks m){x:KindD}{s:ByteArray}(hx:ks[m]? = some x)(hs:ss[m]? = some s)(hz:readE s (xs.map plainG)=0)(hg:wr.grownBy Y (some g)){r:Raw}(hr:Y.ownsRow base 81 10 (.slice (some ⟨g,0,none⟩) ks.length c) ks.length (flatK (ks.set m (x.1,r.1,r.2.1,r.2.2.1,r.2.2.2.1,r.2.2.2.2))))(hX:ExA (fun b=>wr.heap.size<=b) Y 200 (outTree s) (rawV r))(he:ETy Y) :
  RdI base w0 B g c ng nc xs ss sp Y (ks.set m (x.1,r.1,r.2.1,r.2.2.1,r.2.2.2.1,r.2.2.2.2)) (m+1):=by
 obtain⟨hgl,cur,hcur⟩:=owns_lt h.row (g:=g) rfl
 have hBg:some B≠some g:=fun e=>by
  exact k75
 refine⟨?_,by rw[List.length_set];exact hr,h.nms.grown hg hcur,?_,?_,?_,grown_trans h.grown hg,he⟩
 ·rw[List.length_set]
  exact(hg.block B (zza.1 h.sch).1 hBg).trans h.sch
 ·rw[List.map_set,h.spec]
  have e:sp[m]? = some x.1:=by rw[<-h.spec,List.getElem?_map,hx];rfl
  refine List.ext_getElem? fun q=>?_
  rw[List.getElem?_set]
  split
  ·rename_i e'
   subst e';rw[if_pos (zzc.1 e).1,e]
  ·rfl
 ·intro j y q hj hy hq
  by_cases e:j=m
  ·subst e
   rw[List.getElem?_set,if_pos rfl,if_pos (zzc.1 hx).1] at hy;cases hy;rw[hs] at hq;cases hq;exact ExA.mono (fun b _ hb=>by omega) hX
  ·rw[List.getElem?_set,if_neg (fun e' => e e'.symm)] at hy
   exact ExA.kept hg.size (fun b hb hA=>⟨hA,hg.block b hb (fun e' => hA (by injection e'))⟩) _ _ _ (h.tree j y q oo hy hq)
 ·intro j q hj hq
  by_cases e:j=m
  ·subst e
   rw[hs] at hq;cases hq;exact hz
  ·exact h.zero j q oo hq
theorem ETy.grown {w w' : World}{g:Nat}(h:ETy w)(hg:w.grownBy w' (some g))(hne:1≠g):ETy w' := by
 have hl:=h.lt
 unfold ETy at h ⊢
 exact(zzi (hg.block 1 hl (by intro e;injection e with e;exact hne e))).trans h
def RdQ (base:Nat)(w0:World)(B g c ng nc:Nat)(xs:List GrpD)(ss:List ByteArray)(sp:List SpecD)(n:Nat)(Y:World)(f:Int)(m:Nat):Prop:=w0.grownBy Y (some g)/\Y.cell? ⟨B,0,none⟩=some (.slice (some ⟨g,0,none⟩) n c)/\((f=0/\∃ks,ks.length=n/\RdI base w0 B g c ng nc xs ss sp Y ks m)\/(f≠0/\firstE ss (xs.map plainG)=f))
theorem RdI.post {base:Nat}{w0:World}{B g c ng nc:Nat}{xs:List GrpD}{ss:List ByteArray}{sp:List SpecD}{wr:World}{ks:List KindD}{m:Nat}(h:RdI base w0 B g c ng nc xs ss sp wr ks m)(hbase:1<base){x:KindD}{s:ByteArray}(hx:ks[m]? = some x)(hs:ss[m]? = some s){q:Nat}{y:KindD}(hy:ks[q]? = some y){X:World}(hBX:Below wr.heap.size wr X) :
  ∀(e:Ending) (Y:World),(e=.returned (.int .i64 (readE s (xs.map plainG)))/\X.grownBy Y (some g)/\∃ks' : List KindD,ks'.map (·.1)=ks.map (·.1)/\Y.ownsRow base 81 10 (.slice (some ⟨g,0,none⟩) ks.length c) ks.length (flatK ks')/\(readE s (xs.map plainG)=0->∃r:Raw,ks' = ks.set m (x.1,r.1,r.2.1,r.2.2.1,r.2.2.2.1,r.2.2.2.2)/\ExA (fun b=>X.heap.size<=b) Y 200 (outTree s) (rawV r)))->e=.returned (.int .i64 (readE s (xs.map plainG)))/\(Y.cell? ⟨B,0,none⟩=some (.slice (some ⟨g,0,none⟩) ks.length c)/\Y.cell? ⟨B,1,none⟩=some (.slice (some ⟨ng,0,none⟩) xs.length nc)/\Y.cell? ⟨g,q * 10+1,none⟩=some (.string y.1.expr))/\RdQ base w0 B g c ng nc xs ss sp ks.length Y (readE s (xs.map plainG)) (m+1):=by
 rintro e Y ⟨rfl,hg0,ks', hsp,hrow,hr⟩
 have hg:wr.grownBy Y (some g):=grown_trans (grown_below hBX) hg0
 obtain⟨hgl,cur,hcur⟩:=owns_lt h.row (g:=g) rfl
 have hgb:=owned_base h.row (g:=g) rfl
 have hBg:some B≠some g:=fun e=>by
  exact k75
 have hsY:=(hg.block B (zza.1 h.sch).1 hBg).trans h.sch
 have hc:=fun j=>cell_of_row Y B j _ _ _ hsY
 have hce:Y.cell? ⟨g,q * 10+1,none⟩=some (.string y.1.expr):=by
  (have hl:ks'.length=ks.length:=by have:=congrArg List.length hsp;rw[List.length_map,List.length_map] at this;exact this);(have e1:(ks'.map (·.1))[q]? = (ks.map (·.1))[q]? := by rw[hsp]);obtain⟨z,hz⟩:∃z,ks'[q]? = some z:=⟨_,zze (by have:=(zzc.1 hy).1;omega)⟩;rw[List.getElem?_map,List.getElem?_map,hz,hy] at e1;(have e2:z.1=y.1:=by simpa using e1);rw[<-hl] at hrow;rw[<-e2];exact((kinds_at hrow).2 q z hz).2.1
 refine⟨rfl,⟨hc 0,hc 1,hce⟩,grown_trans h.grown hg,hc 0,?_⟩
 by_cases hz:readE s (xs.map plainG)=0
 ·obtain⟨r,r1,r2⟩:=hr hz
  rw[r1] at hrow;exact .inl ⟨hz,_,by rw[List.length_set],h.next hx hs hz hg hrow (ExA.mono (fun b _ hb=>Nat.le_trans hBX.size hb) r2) (h.ety.grown hg oo)⟩
 ·exact .inr ⟨hz,firstE_at ss _ m s hs (fun j q hj hq=>h.zero j q hj hq) hz⟩
theorem RdI.below {base:Nat}{w0:World}{B g c ng nc:Nat}{xs:List GrpD}{ss:List ByteArray}{sp:List SpecD}{wr X:World}{ks:List KindD}{m:Nat}(h:RdI base w0 B g c ng nc xs ss sp wr ks m)(hB:Below wr.heap.size wr X):RdI base w0 B g c ng nc xs ss sp X ks m :=
 ⟨(hB.block B (zza.1 h.sch).1).trans h.sch,owns_same h.row fun k hk=>hB.block k (owns_lt h.row hk).1,h.nms.below hB,h.spec,fun j x s h1 h2 h3=>ExA.kept hB.size (fun b hb hA=>⟨hA,hB.block b hb⟩) _ _ _ (h.tree j x s h1 h2 h3),h.zero,grown_trans h.grown (grown_below hB),h.ety.below hB⟩
theorem readall_calls (base B g c ng nc:Nat)(xs:List GrpD)(whole:ByteArray)(ss:List ByteArray)(sp:List SpecD)(w:World)(ks:List KindD)(h:RdI base w B g c ng nc xs ss sp w ks 0)(hbase:1<base)(h0:ss[0]? = some whole)(hss:∀(j:Nat) (x:KindD),1<=j->ks[j]? = some x->ss[j]? = some x.1.expr)(hsl:ss.length=ks.length)(hsz:∀s∈ss,s.size<=9223372036854775807)(hlen:ks.length<=1000)(hxl:xs.length<=1000) :
  Calls Tryz.prog 57 #[.pointer (some ⟨B,0,none⟩),.string whole] w fun e w' => e=.returned (.int .i64 (firstE ss (xs.map plainG)))/\w.grownBy w' (some g)/\(firstE ss (xs.map plainG)=0->∃ks', ks'.length=ks.length/\RdI base w B g c ng nc xs ss sp w' ks' ks.length):=by
 have hpos:0<ks.length:=by have:=(zzc.1 h0).1;omega
 obtain⟨x0,hx0⟩:∃x,ks[0]? = some x:=⟨_,zze hpos⟩
 have HSP:Hid (∀(ks' : List KindD) (Y:World) (m:Nat),RdI base w B g c ng nc xs ss sp Y ks' m->ks'.length=ks.length->∀(j:Nat) (x:KindD),1<=j->ks'[j]? = some x->ss[j]? = some x.1.expr):=fun ks' Y m h' hl j x h1 hx=>by
  obtain⟨y,hy⟩:∃y,ks[j]? = some y:=⟨_,zze (by have:=(zzc.1 hx).1;omega)⟩;(have e1:(ks'.map (·.1))[j]? = (ks.map (·.1))[j]? := by rw[h'.spec,h.spec]);rw[List.getElem?_map,List.getElem?_map,hx,hy] at e1;(have e2:x.1=y.1:=by simpa using e1);rw[e2];exact hss j y h1 hy
 have HSZ:Hid (∀(j:Nat) (s:ByteArray),ss[j]? = some s->s.size<=9223372036854775807):=fun j s hs=>hsz s (zzj hs)
 have HB:Hid (1<base):=hbase
 have HXL:Hid (xs.length<=1000):=hxl
 have HSL:Hid (ss.length=ks.length):=hsl
 have HFZ:Hid (∀(Y:World) (ks' : List KindD),RdI base w B g c ng nc xs ss sp Y ks' ks.length->firstE ss (xs.map plainG)=0):=fun Y ks' h' => firstE_zero ss _ (fun j q hq=>h'.zero j q (by have:=(zzc.1 hq).1;omega) hq)
 have hBd:Below w.heap.size w w.drew:=(zzd _ _).drew
 have HRD:=Hid.mk_ (kread_calls base base g c 0 ks x0 whole w.drew ng nc xs (h.below hBd).row hx0 (h.below hBd).nms hxl (hsz _ (zzj h0)) (h.below hBd).ety)
 have HPOST:Hid (∀(e:Ending) (Y:World),_->e=.returned (.int .i64 (readE whole (xs.map plainG)))/\(Y.cell? ⟨B,0,none⟩=some (.slice (some ⟨g,0,none⟩) ks.length c)/\Y.cell? ⟨B,1,none⟩=some (.slice (some ⟨ng,0,none⟩) xs.length nc)/\True)/\RdQ base w B g c ng nc xs ss sp ks.length Y (readE whole (xs.map plainG)) 1):=fun e Y hp=>by
  obtain⟨r1,r2,r3⟩:=h.post hbase hx0 h0 hx0 hBd e Y hp;exact⟨r1,⟨r2.1,r2.2.1,trivial⟩,r3⟩
 have hcs:=h.cells
 have hli:(ks.length:Int)<=1000:=by omega
 have hpi:(0:Int)<(ks.length:Int):=by omega
 obtain⟨f0,hf0⟩:∃f0,f0=readE whole (xs.map plainG):=⟨_,rfl⟩
 rw[Nat.zero_mul,<-hf0] at HRD
 rw[<-hf0] at HPOST
 clear h hss hsl hsz hbase hxl h0 hx0 hf0 hBd
 go_enter Tryz.func57,Tryz.ntmps57
 go_wp2_with fail
 refine wp_region_held_drew (S:=fun X=>X.cell? ⟨B,0,none⟩=some (.slice (some ⟨g,0,none⟩) ks.length c)/\X.cell? ⟨B,1,none⟩=some (.slice (some ⟨ng,0,none⟩) xs.length nc)/\True) hmx ⟨hcs.1,hcs.2,trivial⟩ (fun hS=>?_)
 refine takeG 0 (some 7) hS ?_
 refine takeG 1 (some 8) hS ?_
 refine takeG 2 (some 9) hS ?_
 refine takeG 3 (some 10) hS ?_ (hy:=by intro w hSw;obtain⟨k0,k1,k2⟩:=hSw;go_simp;with_reducible rfl)
 refine takeG 4 (some 11) hS ?_
 refine takeG 5 (some 12) hS ?_
 refine takeG 6 (some 13) hS ?_
 refine takeG 7 (some 14) hS ?_
 refine takeG 8 (some 15) hS ?_
 refine takeG 9 (some 16) hS ?_ (hy:=by intro w hSw;obtain⟨k0,k1,k2⟩:=hSw;go_simp;with_reducible rfl)
 refine callD 10 kr rfl (fun K hK=>?_)
 rw[if_pos (by rfl)]
 go_simp
 refine HRD.out.mono ?_
 rintro e Y hpost
 obtain⟨rfl,hSY,hpost⟩:=HPOST.out e Y hpost
 have HQ:=Hid.mk_ hpost
 clear hpost
 refine hK.out _ _ hSY (fun _=>?_)
 clear hK K
 try simp only[lay4]
 refine takeG 11 (some 5) hSY ?_
 refine wpAnyH_done kr ?_ _
 go_wp2
 clear HRD HPOST hcs hSY hS
 go_loopg [5,6] (ks.length+1) (fun gk u v wr=>∃(i:Nat) (f:Int),1<=i/\ks.length<i+gk/\u=.int .i64 f/\v=.int .i64 (i:Int)/\i<=ks.length/\RdQ base w B g c ng nc xs ss sp ks.length wr f i)
 case atStart=>exact⟨1,f0,oo,oo,rfl,rfl,oo,HQ.out⟩
 case round=>
  obtain⟨i,f,hi1,hgk,rfl,rfl,hin,hq⟩:=hrel;clear HQ;obtain⟨hgr,hcb,hq⟩:=hq
  by_cases hlt:i<ks.length
  ·have hdi:decide ((i:Int)<(ks.length:Int))=true:=by simp;omega
   (have hii:(i:Int)<(ks.length:Int):=by omega);(have hi0:(0:Int)<=(i:Int):=by omega);rcases hq with ⟨rfl,ks1,hl1,hI⟩ | ⟨hf,hfe⟩
   ·have hf0:((0:Int)==0)=true:=rfl
    obtain⟨x,hx⟩:∃x,ks1[i]? = some x:=⟨_,zze oo⟩;have hs:=HSP.out ks1 wr i hI hl1 i x hi1 hx;have hBd:Below wr.heap.size wr wr.drew:=(zzd _ _).drew;have HRD:=Hid.mk_ (kread_calls base base g c i ks1 x x.1.expr wr.drew ng nc xs (hI.below hBd).row hx (hI.below hBd).nms HXL.out (HSZ.out i _ hs) (hI.below hBd).ety)
    have HPOST:Hid (∀(e:Ending) (Y:World),_->e=.returned (.int .i64 (readE x.1.expr (xs.map plainG)))/\(Y.cell? ⟨B,0,none⟩=some (.slice (some ⟨g,0,none⟩) ks.length c)/\Y.cell? ⟨B,1,none⟩=some (.slice (some ⟨ng,0,none⟩) xs.length nc)/\Y.cell? ⟨g,i * 10+1,none⟩=some (.string x.1.expr))/\RdQ base w B g c ng nc xs ss sp ks.length Y (readE x.1.expr (xs.map plainG)) (i+1)):=fun e Y hp=>by
     obtain⟨r1,r2,r3⟩:=hI.post HB.out hx hs hx hBd e Y hp;rw[hl1] at r2 r3;exact⟨r1,r2,r3⟩
    have hcs:=hI.cells;have hce:=hI.expr hx;rw[hl1] at hcs HRD;rw[hl1] at HPOST;obtain⟨f1,hf1⟩:∃f1,f1=readE x.1.expr (xs.map plainG):=⟨_,rfl⟩;rw[<-hf1] at HRD HPOST;obtain⟨ex,hex⟩:∃ex,ex=x.1.expr:=⟨_,rfl⟩;rw[<-hex] at HRD HPOST hce;clear hI hx hs hf1 hex hBd hgr hcb;obtain⟨k0,k1⟩:=hcs;(go_wp2_with fail);refine wp_region_held_drew (S:=fun X=>X.cell? ⟨B,0,none⟩=some (.slice (some ⟨g,0,none⟩) ks.length c)/\X.cell? ⟨B,1,none⟩=some (.slice (some ⟨ng,0,none⟩) xs.length nc)/\X.cell? ⟨g,i * 10+1,none⟩=some (.string ex)) hmx ⟨k0,k1,hce⟩ (fun hS=>?_);refine takeG 0 (some 31) hS ?_;refine takeG 1 (some 32) hS ?_;refine takeG 2 (some 33) hS ?_;refine takeG 3 (some 34) hS ?_ (hy:=by intro w hSw;obtain⟨k0,k1,k2⟩:=hSw;go_simp;with_reducible rfl);refine takeG 4 (some 35) hS ?_;refine takeG 5 (some 36) hS ?_;refine takeG 6 (some 37) hS ?_;refine takeG 7 (some 38) hS ?_;refine takeG 8 (some 39) hS ?_;refine takeG 9 (some 40) hS ?_ (hy:=by intro w hSw;obtain⟨k0,k1,k2⟩:=hSw;go_simp;with_reducible rfl);refine takeG 10 (some 41) hS ?_;refine takeG 11 (some 42) hS ?_;refine takeG 12 (some 43) hS ?_;refine takeG 13 (some 44) hS ?_;refine takeG 14 (some 45) hS ?_ (hy:=by intro w hSw;obtain⟨k0,k1,k2⟩:=hSw;go_simp;with_reducible rfl);refine takeG 15 (some 46) hS ?_;refine takeG 16 (some 47) hS ?_;refine takeG 17 (some 48) hS ?_;refine takeG 18 (some 49) hS ?_ (hy:=by intro w hSw;obtain⟨k0,k1,k2⟩:=hSw;go_simp;with_reducible rfl);refine callD 19 kr rfl (fun K hK=>?_);rw[if_pos (by rfl)];go_simp;refine HRD.out.mono ?_;rintro e Y hpost;obtain⟨rfl,hSY,hpost⟩:=HPOST.out e Y hpost;have HQ:=Hid.mk_ hpost;clear hpost;refine hK.out _ _ hSY (fun _=>?_);clear hK K
    try simp only[lay4]
    refine takeG 20 (some 5) hSY ?_;refine wpAnyH_done kr ?_ _;go_wp2
    go_roundg (ks.length - i)
    case measure=>omega
    case rel=>exact⟨i+1,_,oo,oo,rfl,by first | rfl | go_num,oo,HQ.out⟩
   ·have hf0:(f==0)=false:=by simpa using hf
    have HE:Hid (firstE ss (xs.map plainG)=f/\w.grownBy wr (some g)):=⟨hfe,hgr⟩;clear hfe hgr;go_wp2;go_ret;exact⟨by rw[HE.out.1];rfl,HE.out.2,fun e=>absurd (HE.out.1.symm.trans e) hf⟩
  ·have hie:i=ks.length:=by omega
   subst hie;have hdi:decide ((ks.length:Int)<(ks.length:Int))=false:=by simp
   have HE:Hid (firstE ss (xs.map plainG)=f/\w.grownBy wr (some g)/\(firstE ss (xs.map plainG)=0->∃ks', ks'.length=ks.length/\RdI base w B g c ng nc xs ss sp wr ks' ks.length)):=by
    rcases hq with ⟨rfl,ks1,hl1,hI⟩ | ⟨hf,hfe⟩
    ·exact⟨HFZ.out wr ks1 hI,hgr,fun _=>⟨ks1,hl1,hI⟩⟩
    ·exact⟨hfe,hgr,fun e=>absurd (hfe.symm.trans e) hf⟩
   clear hq hgr;go_wp2;go_ret;exact⟨by rw[HE.out.1];rfl,HE.out.2⟩
theorem kindsof_calls (a:Option Addr)(len cap:Nat)(l:List SpecD)(w:World)(hl:Specs w a len l)(hsz:len<=15) :
  Calls Tryz.prog 50 #[.slice a len cap] w fun e w' => ∃g c,e=.returned (.slice (some ⟨g,0,none⟩) (len+1) c)/\w'.ownsRow w.heap.size 81 10 (.slice (some ⟨g,0,none⟩) (len+1) c) (bareK zeroS::l.map bareK).length (flatK (bareK zeroS::l.map bareK))/\Below w.heap.size w w' := by
 have HS:Hid (∀(X:World) (i:Nat),Below w.heap.size w X->i<len->∃b o x,a=some ⟨b,o,none⟩/\l[i]? = some x/\SpecAt X b (o+i * 7) x):=fun X i hX hi=>by
  obtain⟨b,o,x,h1,_,h2,h3⟩:=hl.at hi;exact⟨b,o,x,h1,h2,h3 X hX⟩
 have HLL:Hid (l.length=len):=hl.1
 have HB0:Hid (Below w.heap.size w (w.alloc (.cells (kindC (bareK zeroS)).toArray 81))):=(zzd _ w).alloc (zzb _) _
 have HO0:Hid ((w.alloc (.cells (kindC (bareK zeroS)).toArray 81)).ownsRow w.heap.size 81 10 (.slice (some ⟨w.heap.size,0,none⟩) 1 1) 1 (flatK [bareK zeroS])):=⟨rfl,.inr ⟨w.heap.size,1,_,rfl,zzb _,World.alloc_heap_new w _,zzb _,by unfold maxLen;omega,rfl,rfl⟩⟩
 have hsi:(len:Int)<=15:=by omega
 clear hl
 go_enter Tryz.func50,Tryz.ntmps50
 go_wp2
 go_loopg [3,10] (len+1) (fun gk u v wr=>∃(i:Nat) (g c:Nat),i<=len/\len<i+gk/\u=.slice (some ⟨g,0,none⟩) (i+1) c/\v=.int .i64 (i:Int)/\wr.ownsRow w.heap.size 81 10 (.slice (some ⟨g,0,none⟩) (i+1) c) (bareK zeroS::(l.take i).map bareK).length (flatK (bareK zeroS::(l.take i).map bareK))/\Below w.heap.size w wr)
 case atStart=>exact⟨0,_,_,zzn _,oo,rfl,rfl,by rw[List.take_zero];exact HO0.out,HB0.out⟩
 case round=>
  obtain⟨i,g,c,hi,hgk,rfl,rfl,hown,hB⟩:=hrel;clear HO0 HB0
  by_cases hlt:i<len
  ·obtain⟨b,o,x,rfl,hx,c0,c1,c2,c3,c4,c5,c6⟩:=HS.out wr i hB hlt
   (have hii:(i:Int)<(len:Int):=by omega);(have hi0:(0:Int)<=(i:Int):=by omega);(have hd:decide ((i:Int)<(len:Int))=true:=by simpa using hii);have hB1:Below wr.heap.size wr (wr.alloc (.cells (specC x).toArray 34)):=(zzd _ wr).alloc (zzb _) _;have hB2:Below wr.heap.size wr ((wr.alloc (.cells (specC x).toArray 34)).alloc (.cells (kindC (bareK x)).toArray 81)):=hB1.alloc hB1.size _;(have hlenk:(bareK zeroS::(l.take i).map bareK).length=i+1:=by rw[List.length_cons,List.length_map,List.length_take];have:=HLL.out;omega);obtain⟨g', cap', W1,hrun,hown', hBW⟩:=kind_put _ w.heap.size _ _ (owns_same hown fun k hk=>hB2.block k (owns_lt hown hk).1) (bareK x) oo (by have:=hB2.size;have:=hB.size;omega) (wr.alloc (.cells (specC x).toArray 34)).heap.size 1 (ten_new (wr.alloc (.cells (specC x).toArray 34)) _ _);have htk:l.take (i+1)=l.take i++[x]:=by rw[List.take_add_one,hx];rfl
   have HN:Hid (W1.ownsRow w.heap.size 81 10 (.slice (some ⟨g', 0,none⟩) (i+1+1) cap') (bareK zeroS::(l.take (i+1)).map bareK).length (flatK (bareK zeroS::(l.take (i+1)).map bareK))/\Below w.heap.size w W1):=by
    refine⟨?_,(hB.trans (hB2.mono hB.size)).trans hBW⟩;rw[htk,List.map_append,List.map_singleton];rw[hlenk] at hown';exact hown'
   rw[hlenk,World.size_alloc] at hrun;have HRUN:Hid ((Builtin.append_ #[84,84] 84 #[.slice (some ⟨g,0,none⟩) (i+1) c,.slice (some ⟨wr.heap.size+1,0,none⟩) 1 1]).run Tryz.prog ((wr.alloc (.cells #[.string x.name,.string x.expr,.bool x.leaf,.int .i64 x.marks,.int .i64 x.least,.int .i64 x.most,.bool x.lines] 34)).alloc (.cells #[.string x.name,.string x.expr,.bool x.leaf,.int .i64 x.marks,.int .i64 x.least,.int .i64 x.most,.bool x.lines,.int .i64 0,.string ⟨#[]⟩,.slice none 0 0] 81))=.ok (.slice (some ⟨g', 0,none⟩) (i+1+1) cap') W1):=hrun;clear hown hB hB1 hB2 hBW hown' hrun htk HS hlenk hx
   go_wp2_with (first
    | (at_builtin;trace_state;refine wpList_run_append rfl (.tmp 14) (.tmp 17) 84 rfl _ _ _ _ rfl rfl HRUN.out ?_)
    | fail)
   go_roundg (len - i)
   case measure=>omega
   case rel=>exact⟨i+1,g', cap', by omega,oo,rfl,by first | rfl | go_num,HN.out⟩
  ·obtain rfl:i=len:=by omega
   have hd:decide ((i:Int)<(i:Int))=false:=by simp
   have HN:Hid (wr.ownsRow w.heap.size 81 10 (.slice (some ⟨g,0,none⟩) (i+1) c) (bareK zeroS::l.map bareK).length (flatK (bareK zeroS::l.map bareK))/\Below w.heap.size w wr):=by
    rw[zzm (by have:=HLL.out;omega)] at hown;exact⟨hown,hB⟩
   clear hown hB HS;go_wp2;go_ret;exact⟨g,c,rfl,HN.out⟩
end Go.Proofs.YtjkebndkeamijaaGreatDoor
