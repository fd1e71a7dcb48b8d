/- Texts MwG LzN LfR LkA LkB LkC CkA CkB CkC LkD DkD DkE. -/
import Derived.Test.YtoigoojdbpbhoagGreatDoorJ10
import Derived.Test.YtoigoojdbpbhoagGreatDoorJ02
import Derived.Test.YtoigoojdbpbhoagGreatDoorJ04
import Derived.Test.YtoigoojdbpbhoagGreatDoorJ05
import Derived.Test.YtoigoojdbpbhoagGreatDoorJ06
import Derived.Test.YtoigoojdbpbhoagGreatDoorJ07
namespace Go.Proofs.YtoigoojdbpbhoagGreatDoor
set_option maxRecDepth 20000
set_option maxHeartbeats 4000000
namespace E
open Go.Proofs.Tryz
abbrev MN:Nat:=81
theorem Ou(c:Int)(a:Option Addr)(n k:Nat):prog.built MN [(0,.int .i64 c),(1,.slice a n k)]=some (cI c (.slice a n k) (.slice none 0 0)).toArray:=by kernel_rfl
section
variable{Y:Nat→List Int→Prop}{Z:List Int}{R:Nat→Prop}{B:Nat}{w w':World}{x:Nat}{fp:List Nat}{M:Mx}
theorem Vx.prn{O:Mo}{E:List Int→Prop}(h:Vx Y R B w x fp O E):∃fq,CZ R B w O.q fq O.pr:=by
 obtain⟨d,s,S,W,D,wv,cv,iv,pv,rfl,h,_⟩:=h;exact⟨_,pv,rfl,h.pr⟩
theorem adB(h:Vm Y Z R B w x fp M)(hp:M.pr.2=false)(aZ:M.md.state≤1000):aC prog 142 [.pointer (some ⟨x,0,none⟩)] w fun r w'=>r=.int .i64 (lU M.md M.pr)∧ae [] w w':=by
 have sh:M.o.pr.2=false:=hp;refine aG 21 func142 ?_;unfold lU;rw[if_neg (by rw[hp];decide)];refine au ?_;refine ai _ (aB rfl (h.ptr)) ?_;refine oC (h.load 4 (M.md.state:Nat) fun W hl e=>wu e.state (by decide)) ?_;rintro r w0⟨rfl,cC⟩;rw[cC];refine au ?_;by_cases h0:M.md.state=0
 ·rw[if_pos h0];refine ye ?_;refine au ?_;exact ay func142 rfl ⟨rfl,ae.refl _ _⟩
 ·rw[if_neg h0];refine aL ?_;refine au ?_;by_cases h1:M.md.state=1
  ·rw[if_neg (by omega)];refine ye ?_;refine au ?_;refine ai _ (aB rfl (h.prt)) ?_;obtain⟨fq,hP⟩:=h.prn;refine oC (agQ hP) ?_;rintro r w1⟨rfl,cC⟩;rw[cC,sh];refine au ?_;exact ay func142 rfl ⟨rfl,ae.refl _ _⟩
  ·rw[if_pos (by omega)];refine aL ?_;refine nM ((M.md.state:Int)+-2) ?_;refine au ?_;exact ay func142 rfl ⟨by rw[Int.sub_eq_add_neg],ae.refl _ _⟩
theorem aeh{n:Nat}(h:Vm Y Z R B w x fp M)(hp:M.pr.2=false)(aZ:M.md.state≤1000)(EM:M.pr.1.length≤400000)(hc:M.md.cells.length≤48)(hn:n≤M.md.cells.length):aC prog 102 [.pointer (some ⟨x,0,none⟩),.int .i64 (n:Nat)] w fun r w'=>(∃ov cv,r=.agg (cI (lU M.md M.pr) ov cv).toArray∧bl w' w.heap.size ov M.pr.1∧bl w' w.heap.size cv (M.md.cells.take n))∧ae [] w w':=by
 obtain⟨cd,kV⟩:∃cd,cd=lU M.md M.pr:=⟨_,rfl⟩;rw[←kV];refine aG 30 func102 ?_;refine aP ?_;refine bT ?_;refine cH ?_;refine aj (bO _ rfl sG ?_);intro w1 x4 cy bt ah aM;refine aP ?_;refine bT ?_;have h1:=Vx.aA h ah;refine fx (fun σ' w'=>∃g ov,ak w' g (cI cd ov (.slice none 0 0)) MN∧w1.heap.size≤g∧bl w' w1.heap.size ov M.pr.1∧ae [] w1 w'∧Sub [(0,.pointer (some ⟨x,0,none⟩)),(1,.int .i64 (n:Nat)),(4,.pointer (some ⟨x4,0,none⟩)),(5,.pointer (some ⟨g,0,none⟩))] σ') ?_ ?_
 rotate_left
 ·intro dy;refine bC (fun w'=>ae [] w1 w') [9] bE ?_;have hS:ae [] w1 w1.drew:=(ae.refl _ _).drew;generalize w1.drew=w2 at*;refine yb 1 511 (fun σ' w'=>∃g ov,ak w' g (cI 0 (.slice none 0 0) (.slice none 0 0)) MN∧w1.heap.size≤g∧(∃a k,ov=.slice a M.pr.1.length k)∧bl w' w1.heap.size ov M.pr.1∧ae [] w1 w'∧Sub [(0,.pointer (some ⟨x,0,none⟩)),(1,.int .i64 (n:Nat)),(4,.pointer (some ⟨x4,0,none⟩)),(5,.pointer (some ⟨g,0,none⟩)),(14,.agg (cI cd ov (.slice none 0 0)).toArray)] σ') ?_ ?_
  ·rintro σ' w3⟨g,ov,hg,Fa,⟨oa,ok,rfl⟩,oX,kv,bH⟩;refine yg bH ?_;refine a8 9 rfl (aH (cI cd (.slice oa M.pr.1.length ok) (.slice none 0 0)) rfl rO hg (by simp[cI]) (rN _ _ _ _ _ _ _) ?_);intro w4 cz ax a_;rw[bs (by rfl)]at a_;refine⟨fun h=>absurd (by simp) h,?_⟩;refine bm ?_;exact dy _ _ ⟨g,_,a_,Fa,oX.keep ax (oX.ne hg (by decide)),kv.aO ax Fa,rfl,rfl,rfl,rfl,trivial⟩
  intro nS;refine tk 0 ?_;refine tk 2 ?_;refine tk 3 ?_;refine tk 4 ?_;obtain⟨cv,iv,je,_,_,_⟩:=h1.bk;refine aI 5 (.pointer (some ⟨M.q,0,none⟩)) rfl (fun w9 aq=>aB rfl ((aq.af je (by simp)).cell rfl)) hS ?_;have res:∀{w3:World},ae [] w1 w3→aC prog 142 [.pointer (some ⟨x,0,none⟩)] w3 fun r w'=>r=.int .i64 cd∧ae [] w3 w':=fun{w3} hk=>by
   rw[kV];exact adB (Vx.aA h1 hk) hp aZ
  have SF:∀{w3:World},ae [] w1 w3→aC prog 143 [.pointer (some ⟨M.q,0,none⟩)] w3 fun r w'=>bl w' w1.heap.size r M.pr.1∧ae [] w3 w':=fun{w3} hk=>by
   obtain⟨fq,hP⟩:=(Vx.aA h1 hk).prn;refine(agP hP EM).mono ?_;rintro r w'⟨hr,aK⟩;exact⟨hr.low hk.size,aK⟩
  refine Br 1 8 rfl rfl (by decide+kernel) rfl rfl rfl rfl ?_ ?_
  ·refine aV (fst:=[]) (cap:=[]) rfl ((res hS).mono ?_);rintro r w3⟨rfl,aw⟩;have kv:=hS.tr aw;refine⟨fun _=>kv,?_⟩;refine Br 6 8 rfl rfl (by decide+kernel) rfl rfl rfl rfl ?_ ?_
   ·refine aV (fst:=[]) (cap:=[]) rfl ((SF kv).mono ?_);rintro r w4⟨hr,ax⟩;have gR:=kv.tr ax;obtain⟨oa,ok,rfl⟩:=hr.form;refine⟨fun _=>gR,?_⟩;refine bD 7 _ rfl (fun w=>bL _ rfl rfl (Ou cd oa M.pr.1.length ok) w) ?_;refine a8 8 rfl (bO _ rfl sG ?_);intro w5 g hg iV aE cr;refine⟨fun _=>gR.tr aE,?_⟩;exact nS _ _ ⟨g,_,cr,by have:=gR.size;omega,⟨_,_,rfl⟩,hr.keep aE (fun _ _=>by simp),gR.tr aE,rfl,rfl,rfl,rfl,rfl,trivial⟩
   ·refine bO _ rfl sG ?_;intro w4 g hg cz ax a_;have gR:=kv.tr ax;refine⟨fun _=>gR,?_⟩;refine dC 6 (SF gR) ?_;rintro r w5⟨hr,aE⟩;obtain⟨oa,ok,rfl⟩:=hr.form;refine⟨fun _=>gR.tr aE,?_⟩;refine bD 7 _ rfl (fun w=>bL _ rfl rfl (Ou cd oa M.pr.1.length ok) w) ?_;exact nS _ _ ⟨g,_,aE.af a_ (by simp),by have:=kv.size;omega,⟨_,_,rfl⟩,hr,gR.tr aE,rfl,rfl,rfl,rfl,rfl,trivial⟩
  ·refine bO _ rfl sG ?_;intro w3 g hg cw aw aQ;have kv:=hS.tr aw;refine⟨fun _=>kv,?_⟩;refine dC 1 (res kv) ?_;rintro r w4⟨rfl,ax⟩;have gR:=kv.tr ax;refine⟨fun _=>gR,?_⟩;refine dC 6 (SF gR) ?_;rintro r w5⟨hr,aE⟩;obtain⟨oa,ok,rfl⟩:=hr.form;refine⟨fun _=>gR.tr aE,?_⟩;refine bD 7 _ rfl (fun w=>bL _ rfl rfl (Ou cd oa M.pr.1.length ok) w) ?_;exact nS _ _ ⟨g,_,aE.af (ax.af aQ (by simp)) (by simp),by have:=hS.size;omega,⟨_,_,rfl⟩,hr,gR.tr aE,rfl,rfl,rfl,rfl,rfl,trivial⟩
 rintro σ w2⟨g,ov,hg,Fa,oX,an,bH⟩;refine bj bH ?_;clear bH;refine au ?_;refine ai (.int .i64 (n:Nat)) (aiu _ rfl rfl rfl (by rw[if_neg (by omega)]) _) ?_;refine au ?_;refine cP (fun t σ w'=>∃(j:Nat) (c2:Value),j≤n∧t=n-j∧σ=[(0,.pointer (some ⟨x,0,none⟩)),(4,.pointer (some ⟨x4,0,none⟩)),(5,.pointer (some ⟨g,0,none⟩)),(16,.int .i64 (n:Nat)),(17,.int .i64 (j:Nat))]∧ae [] w1 w'∧ak w' g (cI cd ov c2) MN∧bl w' w1.heap.size ov M.pr.1∧bl w' w1.heap.size c2 (M.md.cells.take j)∧jI ov c2)
  n _ ?_ ⟨0,.slice none 0 0,Nat.zero_le _,rfl,rfl,an,hg,oX,bl.nil _ _,fun k _ hm=>by simp[aW,Value.ownBlock]at hm⟩ ?_
 ·exact⟨rfl,rfl,rfl,rfl,rfl,trivial⟩
 clear hg oX an;rintro t σ w3 ih⟨j,c2,hj,rfl,rfl,aw,hg,oX,o0,EP⟩;have jv:(M.md.cells.take j).length=j:=by rw[List.length_take];omega
 obtain⟨AS,AT,aax⟩:=o0.form;rw[jv]at aax;subst aax;refine au ?_;by_cases az:j<n
 ·refine ye ?_;refine au ?_;refine bC (fun w'=>ae [] w3 w') [6,8] bE ?_;have hS:ae [] w3 w3.drew:=(ae.refl _ _).drew;generalize w3.drew=w4 at*;have hja:j<M.md.cells.length:=by omega
  refine tk 0 ?_;refine aI 1 (.slice AS j AT) rfl (fun w9 aq=>aB rfl ((aq.af hg (by simp)).cell rfl)) hS ?_;refine tk 2 ?_;refine tk 3 ?_;refine dC 4 (Ot (Vx.aA h1 (aw.tr hS)) hc hja) ?_;rintro r w4'⟨rfl,cC⟩;rw[cC];refine⟨fun _=>hS,?_⟩;obtain⟨v,hv⟩:∃v,v=cellAt M.md.cells ((j:Nat):Int):=⟨_,rfl⟩;rw[←hv];refine a8 5 rfl (eE dA [.int .i64 v] rfl rfl (F3 v) ?_);intro w5 g5 yQ iV aE cr;refine⟨fun _=>hS.tr aE,?_⟩;have aoc:Own w5 w1.heap.size dA 1 (.slice AS j AT) j (dZ (M.md.cells.take j)):=by
   have:=o0.keep (hS.tr aE) (fun _ _=>by simp);unfold bl at this;rw[jv]at this;exact this
  refine a8 6 rfl (ja w1.heap.size dA 1 8 (dZ (M.md.cells.take j)) [.int .i64 v] rfl rfl rfl yj aoc (cr.range rfl) rfl (nL rfl) (by decide) (by unfold maxLen;omega) (by omega) ((aw.tr hS).tr aE).size ?_);intro g2 cap w6 bW mQ;refine⟨fun h=>absurd (by simp) h,?_⟩;have xr:M.md.cells.take (j+1)=M.md.cells.take j++[v]:=by
   rw[List.take_add_one,A3 hja,hv];rfl
  have bN:bl w6 w1.heap.size (.slice (some ⟨g2,0,none⟩) (j+1) cap) (M.md.cells.take (j+1)):=by
   have e2:dZ (M.md.cells.take (j+1))=dZ (M.md.cells.take j)++[.int .i64 v]:=by rw[xr,Ge];rfl
   unfold bl;rw[show(M.md.cells.take (j+1)).length=j+1 by rw[List.length_take];omega,e2];exact bW
  have aD:ae (aW (.slice AS j AT)) w5 w6:=by
   rcases mQ with⟨h3,_,h4⟩|⟨_,h4,_⟩
   ·rw[aW,h3];exact h4
   ·exact h4.bG
  have fW:∀y∈aW (.slice (some ⟨g2,0,none⟩) (j+1) cap),y∈aW (.slice AS j AT)∨w5.heap.size≤y:=fun y hy=>by
   have hy:y=g2:=by simpa[aW,Value.ownBlock]using hy
   subst hy;rcases mQ with⟨h3,_,_⟩|⟨h3,_,_⟩
   ·exact .inl (iM.2 h3)
   ·exact .inr (by omega)
  have aay:=(hS.tr aE).af hg (by simp);have Zn:bl w5 w1.heap.size (.slice AS j AT) (M.md.cells.take j):=o0.keep (hS.tr aE) (fun _ _=>by simp);have yY:=aD.af aay fun hm=>Zn.ne aay (by decide) g hm (by simp);have aaz:=oX.keep (hS.tr aE) (fun _ _=>by simp);have aaA:=aaz.keep aD fun y hy=>EP y hy;refine tk 7 ?_;refine a8 8 rfl (aH [.slice (some ⟨g2,0,none⟩) (j+1) cap] rfl Bj yY (by simp[cI]) (nL rfl) ?_);intro w7 jr aN eC;refine⟨fun h=>absurd (by simp) h,?_⟩;refine bm ?_;have Cg:ae [] w1 w7:=(((aw.tr hS).tr aE).trans aD fun y hy=>.inr (Zn.lt y hy).1).aO aN Fa;refine nM ((j+1:Nat):Int) ?_;refine au ?_;refine bj ?_ (ih (n-(j+1)) [(0,.pointer (some ⟨x,0,none⟩)),(4,.pointer (some ⟨x4,0,none⟩)),(5,.pointer (some ⟨g,0,none⟩)),(16,.int .i64 (n:Nat)),(17,.int .i64 ((j+1:Nat):Int))] w7 (by omega) ⟨j+1,_,by omega,rfl,rfl,Cg,eC,aaA.keep aN (aaA.ne yY (by decide)),bN.keep aN (bN.ne yY (by decide)),fun y hy hm=>?_⟩)
  ·exact⟨rfl,rfl,rfl,rfl,rfl,trivial⟩
  ·rcases fW y hm with h3|h3
   ·exact EP y hy h3
   ·have:=(aaz.lt y hy).2;omega
 ·have uB:j=n:=by omega
  subst uB;refine aL ?_;refine au ?_;obtain⟨oa,ok,aod⟩:=oX.form;subst aod;refine ai (.agg (cI cd (.slice oa M.pr.1.length ok) (.slice AS j AT)).toArray) (bF (cI cd (.slice oa M.pr.1.length ok) (.slice AS j AT)) rfl (hg.range (by rfl))) ?_;have aQ:=aw.af aM (by simp);refine aj (aH (cI cd (.slice oa M.pr.1.length ok) (.slice AS j AT)) rfl rO aQ (by simp[cI]) (rN _ _ _ _ _ _ _) ?_);intro w4 cz ax a_;rw[bs (by rfl)]at a_;refine au ?_;exact df func102 (.inr (.inr (.inl ⟨_,_,_,rfl,rfl,cV hT a_ rfl⟩))) ⟨⟨_,_,rfl,(oX.keep ax (oX.ne aQ (by decide))).low ah.size,bl.low (o0.keep ax (o0.ne aQ (by decide))) ah.size⟩,(ah.tr aw).aO ax (by omega)⟩
end
def AO(Z:List Int)(m:Md):List Int:=(List.range 112).map fun j=>
 if j=0 then(m.next:Int)else if j=1 then(m.stack.length:Int)else if j=2 then(m.read:Int)else if j=3 then(m.out:Int)else if j=4 then(m.state:Int)
 else if j<53 then(if j-5<m.cells.length then m.cells.getD (j-5) 0 else Z.getD j 0)else(if j-53<m.stack.length then m.stack.getD (j-53) 0 else Z.getD j 0)
theorem UM(Z:List Int)(m:Md):(AO Z m).length=112:=by simp[AO]
theorem getD_some{l:List Int}{i:Nat}(h:i<l.length):l[i]?=some (l.getD i 0):=by
 rw[List.getD_eq_getElem?_getD,List.getElem?_eq_getElem h];rfl
theorem Ff.whole{Z W:List Int}{m:Md}(h:Ff Z W m)(hW:W.length=112)(hZ:Z.length=112)(hc:m.cells.length≤48):W=AO Z m:=by
 refine List.ext_getElem? fun j=>?_;by_cases hj:j<112
 ·have hr:(AO Z m)[j]?=some (if j=0 then(m.next:Int)else if j=1 then(m.stack.length:Int)else if j=2 then(m.read:Int)else if j=3 then(m.out:Int)else if j=4 then(m.state:Int)
    else if j<53 then(if j-5<m.cells.length then m.cells.getD (j-5) 0 else Z.getD j 0)else(if j-53<m.stack.length then m.stack.getD (j-53) 0 else Z.getD j 0)):=by
   simp only[AO,List.getElem?_map,List.getElem?_range hj,Option.map_some]
  rw[hr];by_cases e0:j=0
  ·rw[if_pos e0,e0];exact h.next
  rw[if_neg e0];by_cases e1:j=1
  ·rw[if_pos e1,e1];exact h.many
  rw[if_neg e1];by_cases e2:j=2
  ·rw[if_pos e2,e2];exact h.read
  rw[if_neg e2];by_cases e3:j=3
  ·rw[if_pos e3,e3];exact h.out
  rw[if_neg e3];by_cases e4:j=4
  ·rw[if_pos e4,e4];exact h.state
  rw[if_neg e4];by_cases e5:j<53
  ·rw[if_pos e5];by_cases e6:j-5<m.cells.length
   ·rw[if_pos e6];have:=h.cells (j-5) _ (getD_some e6)
    rwa [show 5+(j-5)=j by omega]at this
   ·rw[if_neg e6,h.agb j (by omega) (.inl e5)];exact getD_some (by omega)
  ·rw[if_neg e5];by_cases e6:j-53<m.stack.length
   ·rw[if_pos e6];have:=h.stack (j-53) _ (getD_some e6)
    rwa [show 53+(j-53)=j by omega]at this
   ·rw[if_neg e6,h.agb j (by omega) (.inr (by omega))];exact getD_some (by omega)
 ·rw[List.getElem?_eq_none (by omega),List.getElem?_eq_none (by rw[UM];omega)]
def Vw(Y:Nat→List Int→Prop)(R:Nat→Prop)(B:Nat)(w:World)(x:Nat)(fp:List Nat)(M:Mx)(W:List Int):Prop:=Vx Y R B w x fp M.o fun W'=>Enc W' M.md∧W'=W
def Yk(d:Nat)(KW:List Int):Nat→List Int→Prop:=fun d' S=>d'=d∧mu S=KW
def d_(L:List Is)(inp:List Int)(m:Md)(W:List Int):List Int:=AO W (eD L inp m ([],false)).1
theorem Yc(L:List Is)(inp:List Int)(m:Md)(p p':Pr):(eD L inp m p).1=(eD L inp m p').1:=by
 unfold eD;split
 ·exact Yd _ _ _ _ _
 ·rfl
section
variable{Y:Nat→List Int→Prop}{R:Nat→Prop}{B:Nat}{w w':World}{x:Nat}{fp:List Nat}{M:Mx}{W KW:List Int}{d:Nat}
theorem Vw.len(h:Vw Y R B w x fp M W):W.length=112:=by
 obtain⟨d,s,S,W',D,wv,cv,iv,pv,rfl,h,⟨_,rfl⟩,_⟩:=h;exact h.st.mem.wl
theorem Vw.m(h:Vw Y R B w x fp M W):Vm Y W R B w x fp M:=Vx.mono h fun _ _ e=>⟨e.1,fun j _=>by rw[e.2]⟩
theorem Vp.full{Z:List Int}(h:Vp Y Z R B w x fp M)(hZ:Z.length=112)(hc:M.md.cells.length≤48):Vw Y R B w x fp M (AO Z M.md):=Vx.mono h fun _ hl e=>⟨e.toEnc,e.whole hl hZ hc⟩
theorem akb{c i:Nat}{Q:List Is}(h:Vw (Yk d KW) R B w x fp M W)(ho:Wo c Q M i)(hi:i≤400000)(hs:M.md.state=0)(hl:eG M.L M.md=true→M.left=0∧M.torn=false):aC prog 179 [.pointer (some ⟨x,0,none⟩)] w fun r w'=>r=.bool true∧∃fp',Vw (Yk d (if eG M.L M.md then d_ M.L M.inp M.md W else KW)) R B w' x fp' (M.go (if eG M.L M.md then M.gen+1 else M.gen)) (d_ M.L M.inp M.md W)∧ae fp w w'∧∀k∈fp',k∈fp∨w.heap.size≤k:=by
 have lI:=ho.fit.cells;have u3:=ho.MG;have hmd:∀g,(M.go g).md=(eD M.L M.inp M.md ([],false)).1:=fun g=>Yc _ _ _ _ _;have uA:=(akg M.L M.inp M.md ([],false) ho.state).2.2.2;refine(ag5 (Y':=Yk d (if eG M.L M.md then d_ M.L M.inp M.md W else KW)) h.m ho hi hs hl ?_ ?_).mono ?_
 ·rintro gQ d' S S2 W'⟨rfl,_⟩ he vr hS;refine⟨rfl,?_⟩;rw[gQ,if_pos rfl,hS,he.b.whole vr h.len (by show M.md.cells.length≤48;omega)];unfold d_;have e:(M.at M.md).md=(eD M.L M.inp M.md ([],false)).1:=by
   have ng:(M.L.getD M.md.next (0,0,0,0)).1=15:=by
    unfold eG at gQ;simp only[Bool.and_eq_true,decide_eq_true_eq]at gQ;exact gQ.2
   unfold eD;rw[if_pos hs];generalize M.L.getD M.md.next (0,0,0,0)=y at ng⊢;obtain⟨op,A,K,N⟩:=y;simp only at ng;subst ng;rfl
  rw[e]
 ·rintro gQ d' S⟨rfl,hS⟩;exact⟨rfl,by rw[gQ,if_neg (by decide)];exact hS⟩
 ·rintro r w'⟨rfl,fp',h',hk,hf⟩;refine⟨rfl,fp',?_,hk,hf⟩;have h2:=h'.full h.len (by rw[hmd,uA];omega);rw[hmd]at h2;exact h2
theorem UP(mask:Nat):D4 ((mask:Nat):Int) 0=decide (mask%2=1):=by
 unfold D4;have e:((mask:Nat):Int).fdiv (2^(0%64))=(mask:Nat):=by simp
 rw[e];have e2:(BitVec.ofInt 64 ((mask:Nat):Int)&&&BitVec.ofInt 64 1).toNat=mask%2:=by
  have h1:BitVec.ofInt 64 1=1#64:=by decide
  rw[h1,BitVec.toNat_and,BitVec.ofInt_natCast,BitVec.toNat_ofNat,BitVec.toNat_ofNat,show 1%2^64=1 by decide,Nat.and_one_is_mod];omega
 rw[e2];have h2:mask%2=0∨mask%2=1:=by omega
 rcases h2 with h2|h2<;>rw[h2]<;>decide
theorem zf.D_{E:List Int→Prop}{O:Mo}(h:zf (Yk d KW) E R B w w' fp O)(h0:0<O.left)(mask:Nat):∃W,E W∧W.length=112∧aC prog 182 [.pointer (some ⟨d,0,none⟩),.int .u64 (mask:Nat)] w' fun r cg=>r=.tuple #[]∧ae [d] w' cg∧∃S2,fL B cg d S2 [] (.slice none 0 0)∧Good S2∧mu S2=(if O.left=1∧mask%2=1 then W else KW)∧fE S2=(if O.left=1∧mask%2=1 then O.gen+1 else O.gen):=by
 obtain⟨d',S,W,D,wv,pv,he,⟨rfl,hK⟩,hl,hG,ht,Hh,hd,_⟩:=h;refine⟨W,he,hl,?_⟩;have hlen:(gD W D).length≤14:=Ja W D 14;have cL:=(Ub hG (Jz W D) (Nv hl D (by decide))).2 (((gD W D).length:Int)+5-O.left).toNat (by omega) (D4 (mask:Nat));have CM:(gJ ((lu S (gD W D)).take (((gD W D).length:Int)+5-O.left).toNat) (S,[])).2.length<1000000:=by
  have h1:=Uc ((lu S (gD W D)).take (((gD W D).length:Int)+5-O.left).toNat) (S,[]);have h2:((lu S (gD W D)).take (((gD W D).length:Int)+5-O.left).toNat).length≤(((gD W D).length:Int)+5-O.left).toNat:=by rw[List.length_take];omega
  simp only[List.length_nil]at h1;omega
 refine(Vr hd CM (mask:Nat)).mono ?_;rintro r cg⟨rfl,lk,an⟩;refine⟨rfl,an,_,lk,?_⟩;by_cases hc:O.left=1∧mask%2=1
 ·have hN:=cL.1 ⟨by omega,by rw[UP];simp[hc.2]⟩;rw[if_pos hc,if_pos hc];exact⟨hN.tj,Yh hl (hN.all ht),by rw[hN.gen,Hh]⟩
 ·have hS:=cL.2 fun h=>hc ⟨by omega,by rw[UP]at h;simpa using h.2⟩;rw[if_neg hc,if_neg hc];refine⟨hS.tj,?_,by rw[hS.gen,Hh]⟩;rw[←hK];unfold mu vh;simp only[hS.read]
end
theorem agN(inp:List Int)(x:Is)(m:Md)(p:Pr):(bu inp x m p).1.stack.length≤m.stack.length+1:=by
 simp only[bu,apply_ite Prod.fst,apply_ite Md.stack,apply_ite List.length,List.length_append,List.length_dropLast,List.length_cons,List.length_nil]
 repeat' split
 all_goals omega
theorem WW{Q:List Is}{inp:List Int}{c:Nat}(hQ:db c 0 Q 0)(hJ:u2 c 0 Q):∀(n:Nat),(pu (Q++[bA]) inp c n).1.stack.length≤25
 |0=>by simp[pu,yF,gL]
 | n+1=>by
  rw[yd];unfold eD;split
  ·rename_i hs
   have h1:=((Bz (inp:=inp) hQ hJ n).rk hs).le (by decide);have h2:=agN inp ((Q++[bA]).getD (pu (Q++[bA]) inp c n).1.next (0,0,0,0)) (pu (Q++[bA]) inp c n).1 (pu (Q++[bA]) inp c n).2;omega
  ·exact WW hQ hJ n
theorem jd.fit{Q:List Is}{inp:List Int}{c:Nat}{x:Lf}{g:Nat}(h:jd (Q++[bA]) inp c x g)(hP:HO c Q):Fit c Q x.m x.p∧x.p.1.length≤g∧x.m.read≤g∧x.m.state≤14∧x.k.stack.length≤25∧(x.k.cells.length:Int)=c∧x.p.2=false:=by
 obtain⟨a,b,e1,e2,e3,h1,h2⟩:=h;have fa:=Bz (inp:=inp) hP.rk hP.jmp a;have fb:=Bz (inp:=inp) hP.rk hP.jmp b;obtain⟨b1,b2,b3⟩:=DB (W:=Q++[bA]) (inp:=inp) (c:=c) a;obtain⟨_,d2,_⟩:=DB (W:=Q++[bA]) (inp:=inp) (c:=c) g;have ho:=(yl (W:=Q++[bA]) (inp:=inp) (c:=c) a).1;have arX:=(YW (W:=Q++[bA]) (inp:=inp) (c:=c) h1).length_le;refine⟨?_,by rw[e3];exact d2,by rw[e1];omega,by rw[e1];exact b3,by rw[e2];exact WW hP.rk hP.jmp b,by rw[e2];exact fb.cells,by rw[e3];exact(yl g).2⟩;rw[e1,e3];exact⟨fa.cells,by omega,fa.next,fa.rk⟩
section
variable{Y:Nat→List Int→Prop}{R:Nat→Prop}{B:Nat}{w w':World}{x d q:Nat}{fp kB:List Nat}{M:Mx}{W KW:List Int}{pv:Value}{p:Pr}{g:Int}
theorem Vm.wds(h:Vm Y W R B w x fp M)(he:Enc W M.md)(hW:W.length=112)(hc:M.md.cells.length≤48):Vw Y R B w x fp M W:=Vx.mono h fun W' hl e=>⟨e.toEnc,by
 have h1:=e.b.whole hl hW hc;have h2:W=AO W M.md:=Ff.whole ⟨he,fun _ _ _=>rfl⟩ hW hW hc;rw[h1];exact h2.symm⟩
theorem Vw.enc(h:Vw Y R B w x fp M W):Enc W M.md:=by
 obtain⟨d,s,S,W',D,wv,cv,iv,pv,rfl,h,⟨he,rfl⟩,_⟩:=h;exact he
structure Dk(R:Nat→Prop)(B:Nat)(w:World)(d q:Nat)(pv:Value)(p:Pr)(KW:List Int)(g:Int):Prop where
 nu:∃S,fL B w d S [] (.slice none 0 0)∧Good S∧mu S=KW∧fE S=g
 pr:Pv R B w q pv p
 nr:¬R d
theorem Dk.keep(h:Dk R B w d q pv p KW g)(hk:ae kB w w')(hn:∀k∈kB,k∉d::q::aW pv):Dk R B w' d q pv p KW g:=by
 obtain⟨⟨S,h1,h2⟩,h3,h4⟩:=h;refine⟨⟨S,h1.keep hk fun k hm h=>?_,h2⟩,h3.keep hk fun k hm hq=>hn k hm (List.mem_cons_of_mem _ hq),h4⟩;have:k=d:=by simpa[dh,Value.ownBlock]using hm
 exact hn k h (by rw[this];simp)
theorem Dk.aA(h:Dk R B w d q pv p KW g)(hk:ae [] w w'):Dk R B w' d q pv p KW g:=h.keep hk fun k hk=>by cases hk
theorem Dk.first{B0:Nat}(hd:fL B0 w d (List.replicate 272 0) [] (.slice none 0 0))(Se:B≤B0)(hp:ak w q CX zd)(hq:B≤q∧¬R q)(ze:¬R d)(tK:∀k,R k→k<w.heap.size):Dk R B w d q (.slice none 0 0) ([],false) (List.replicate 112 0) 0:=by
 rw[show List.replicate 272 (0:Int)=S0 from rfl]at hd;have Sr:Pv R B w q (.slice none 0 0) ([],false):=⟨hp,bl.nil _ _,hq.1,tK,fun k hk=>by
  have hk:k=q:=by simpa[aW,Value.ownBlock]using hk
  rw[hk];exact hq.2⟩
 exact⟨⟨S0,⟨hd.af,World.ownsRow_nil _ _ _ _,hd.ne,hd.len,Nat.le_trans Se hd.base,hd.wf⟩,al2,al3,al4⟩,Sr,ze⟩
theorem lC.own{F:Nat→Prop}{v:Value}{l:List Is}(h:lC F w v l):∃rb:List Nat,(∀k∈rb,F k)∧lC (·∈rb) w v l:=by
 obtain⟨a,cap,e,h2⟩:=h;by_cases h0:0<l.length
 ·obtain⟨b,o,e1,hF,hr⟩:=h2 h0;exact⟨[b],fun k hk=>by rw[List.mem_singleton.1 hk];exact hF,a,cap,e,fun _=>⟨b,o,e1,by simp,hr⟩⟩
 ·exact⟨[],⟨fun k hk=>(by cases hk),a,cap,e,fun h=>absurd h h0⟩⟩
theorem WR{S:List Int}{L:List Wr}{wv:Value}(hd:fL B w d S L wv)(hp:Pv R B w q pv p):∀k∈[d],k∉q::aW pv:=fun k hk hq=>by
 have hk:=List.mem_singleton.1 hk;rcases List.mem_cons.1 hq with h5|h5
 ·exact ak.ne hd.af hp.af (by decide) (hk.symm.trans h5)
 ·exact hp.row.ne hd.af (by decide) k h5 (by rw[hk];simp)
theorem Vw.D_(h:Vw (Yk d KW) R B w x fp M W)(mask:Nat):aC prog 182 [.pointer (some ⟨d,0,none⟩),.int .u64 (mask:Nat)] w fun r w'=>r=.tuple #[]∧∃pv,Dk R B w' d M.q pv M.pr KW M.gen∧ae [d] w w'∧∀k∈d::M.q::aW pv,k∈fp:=by
 obtain⟨d',s,S,W',D,wv,cv,iv,pv,rfl,h,⟨_,rfl⟩,rfl,hK⟩:=h;refine(Vr h.st.nu (by simp) (mask:Nat)).mono ?_;rintro r w'⟨rfl,hd,hk⟩;have iY:∀k∈d'::M.q::aW pv,k∈vS x d' s M.o.m wv M.o.q pv iv:=fun k hk=>by
  rcases List.mem_cons.1 hk with rfl|hk
  ·exact dU.2 (.inr (.inr (.inr (.inl (by simp[dh])))))
  ·exact dU.2 (.inr (.inr (.inr (.inr (.inl hk)))))
 exact⟨rfl,pv,⟨⟨S,hd,h.st.tj,hK,h.gen⟩,h.pr.keep hk (WR h.st.nu h.pr),h.nr _ (iY _ (by simp))⟩,hk,iY⟩
theorem zf.aA{cg:World}{E:List Int→Prop}{O:Mo}(h:zf Y E R B w w' fp O)(hk:ae [] w' cg):zf Y E R B w cg fp O:=by
 obtain⟨d',S,W',D,wv,pv,t1,t2,t3,t4,t5,t6,hd,hp,t7⟩:=h;exact⟨d',S,W',D,wv,pv,t1,t2,t3,t4,t5,t6,hd.keep hk (fun _ _=>by simp),hp.aA hk,t7⟩
theorem zf.dk{E:List Int→Prop}{O:Mo}(h:zf (Yk d KW) E R B w w' fp O)(h0:0<O.left)(hd0:d∈fp)(ze:¬R d)(mask:Nat):∃W,E W∧W.length=112∧aC prog 182 [.pointer (some ⟨d,0,none⟩),.int .u64 (mask:Nat)] w' fun r cg=>r=.tuple #[]∧∃pv,Dk R B cg d O.q pv O.pr (if O.left=1∧mask%2=1 then W else KW) (if O.left=1∧mask%2=1 then O.gen+1 else O.gen)∧ae [d] w' cg∧∀k∈d::O.q::aW pv,k∈fp:=by
 obtain⟨W,he,hl,hr⟩:=h.D_ h0 mask;obtain⟨d',S,W',D,wv,pv,_,⟨rfl,_⟩,_,_,_,_,hd,hp,_,hf⟩:=h;refine⟨W,he,hl,hr.mono ?_⟩;rintro r cg⟨rfl,hk,S2,h1,h2,h3,h4⟩;refine⟨rfl,pv,⟨⟨S2,h1,h2,h3,h4⟩,hp.keep hk (WR hd hp),ze⟩,hk,fun k hk=>?_⟩;rcases List.mem_cons.1 hk with rfl|hk
 ·exact hd0
 ·exact hf k hk
def Lm(R:Nat→Prop)(B:Nat)(w:World)(d q:Nat)(L:List Is)(inp:List Int)(x:Nat)(fp:List Nat)(z:Lz):Prop:=
 (∃m,Vw (Yk d z.KW) R B w x fp ⟨L,inp,m,q,z.lf.m,z.lf.p,0,false,z.gen⟩ z.W)∧Enc z.KW z.lf.k∧z.KW.length=112
def Lo(c i:Nat)(Q:List Is)(inp:List Int)(z:Lz):Prop:=Wo c Q ⟨Q++[bA],inp,0,0,z.lf.m,z.lf.p,0,false,z.gen⟩ i
end
section
variable{R:Nat→Prop}{B:Nat}{w w':World}{x d q c i:Nat}{fp kB:List Nat}{L Q:List Is}{inp:List Int}{z:Lz}
theorem Lo.at(h:Lo c i Q inp z)(m q:Nat)(left:Int):Wo c Q ⟨Q++[bA],inp,m,q,z.lf.m,z.lf.p,left,false,z.gen⟩ i:=⟨h.Fg,h.MG,h.code,h.fit,h.inp,h.out,h.read,h.aao,h.gen,h.state⟩
theorem Lo.cells(h:Lo c i Q inp z):z.lf.m.cells.length≤48:=by
 have h1:(z.lf.m.cells.length:Int)=c:=h.fit.cells;have h2:=h.MG;omega
theorem Lm.lt(h:Lm R B w d q L inp x fp z):∀k∈fp,B≤k∧k<w.heap.size∧¬R k:=by
 obtain⟨⟨m,h⟩,_⟩:=h;exact Vx.lt h
theorem Lm.keep(h:Lm R B w d q L inp x fp z)(hk:ae kB w w')(hn:∀k∈kB,¬R k∧k∉fp):Lm R B w' d q L inp x fp z:=by
 obtain⟨⟨m,h⟩,he⟩:=h;exact⟨⟨m,Vx.keep h hk hn⟩,he⟩
theorem Lm.aA(h:Lm R B w d q L inp x fp z)(hk:ae [] w w'):Lm R B w' d q L inp x fp z:=h.keep hk fun k hk=>by cases hk
theorem Lm.step(h:Lm R B w d q (Q++[bA]) inp x fp z)(ho:Lo c i Q inp z)(hi:i≤400000)(hs:z.lf.m.state=0):aC prog 179 [.pointer (some ⟨x,0,none⟩)] w fun r w'=>r=.bool true∧∃fp',Lm R B w' d q (Q++[bA]) inp x fp' (iB d_ (Q++[bA]) inp true z)∧ae fp w w'∧∀k∈fp',k∈fp∨w.heap.size≤k:=by
 obtain⟨⟨m,h⟩,he,hl⟩:=h;refine(akb h (ho.at m q 0) hi hs fun _=>⟨rfl,rfl⟩).mono ?_;rintro r w'⟨rfl,fp',h',hk,hf⟩;refine⟨rfl,fp',?_,hk,hf⟩;by_cases hc:eG (Q++[bA]) z.lf.m=true
 ·have e:iB d_ (Q++[bA]) inp true z=⟨iP (Q++[bA]) inp true z.lf,d_ (Q++[bA]) inp z.lf.m z.W,d_ (Q++[bA]) inp z.lf.m z.W,z.gen+1⟩:=by
   unfold iB;rw[hc];rfl
  have aK:(iP (Q++[bA]) inp true z.lf).k=(eD (Q++[bA]) inp z.lf.m z.lf.p).1:=by
   simp only[iP,hc,Bool.and_self,if_pos]
  simp only[hc,if_pos]at h';rw[e];exact⟨⟨m,h'⟩,by rw[aK];exact Vw.enc h',by unfold d_;exact UM _ _⟩
 ·have hc:eG (Q++[bA]) z.lf.m=false:=by simpa using hc
  have e:iB d_ (Q++[bA]) inp true z=⟨iP (Q++[bA]) inp true z.lf,d_ (Q++[bA]) inp z.lf.m z.W,z.KW,z.gen⟩:=by
   unfold iB;rw[hc];rfl
  have aK:(iP (Q++[bA]) inp true z.lf).k=z.lf.k:=by
   simp only[iP,hc,Bool.and_false];rfl
  simp only[hc]at h';rw[e];exact⟨⟨m,h'⟩,by rw[aK];exact he,hl⟩
theorem Lm.off(h:Lm R B w d q L inp x fp z)(hs:z.lf.m.state≠0):aC prog 179 [.pointer (some ⟨x,0,none⟩)] w fun r w'=>r=.bool false∧ae [] w w':=by
 obtain⟨⟨m,h⟩,_⟩:=h;exact agK h.m hs
theorem Lm.akc(h:Lm R B w d q (Q++[bA]) inp x fp z)(ho:Lo c i Q inp z):aC prog 180 [.pointer (some ⟨x,0,none⟩)] w fun r w'=>r=.bool (eG (Q++[bA]) z.lf.m)∧ae [] w w':=by
 obtain⟨⟨m,h⟩,_⟩:=h;exact adw h.m (ho.at m q 0)
theorem Lm.D_(h:Lm R B w d q L inp x fp z)(mask:Nat):aC prog 182 [.pointer (some ⟨d,0,none⟩),.int .u64 (mask:Nat)] w fun r w'=>r=.tuple #[]∧∃pv,Dk R B w' d q pv z.lf.p z.KW z.gen∧ae [d] w w'∧∀k∈d::q::aW pv,k∈fp:=by
 obtain⟨⟨m,h⟩,_⟩:=h;exact h.D_ mask
def Ss(R:Nat→Prop)(B:Nat)(w:World)(d q:Nat)(L:List Is)(inp:List Int)(x:Nat)(fp:List Nat)(z:Lz)(left:Int):Prop:=
 (∃m,Vw (Yk d z.KW) R B w x fp ⟨L,inp,m,q,z.lf.m,z.lf.p,left,false,z.gen⟩ z.W)∧Enc z.KW z.lf.k∧z.KW.length=112
theorem Lm.Lu(h:Lm R B w d q L inp x fp z)(hc:z.lf.m.cells.length≤48)(n:Int):aC prog 181 [.pointer (some ⟨x,0,none⟩),.int .i64 n] w fun r w'=>r=.tuple #[]∧Ss R B w' d q L inp x fp z n∧ae fp w w':=by
 obtain⟨⟨m,h⟩,he⟩:=h;refine(agL h.m n).mono ?_;rintro r w'⟨rfl,h2,hk⟩;exact⟨rfl,⟨⟨m,Vm.wds h2 h.enc h.len hc⟩,he⟩,hk⟩
theorem Ss.al5{left:Int}(h:Ss R B w d q (Q++[bA]) inp x fp z left)(ho:Lo c i Q inp z)(hi:i≤400000)(gQ:eG (Q++[bA]) z.lf.m=true)(vu:0≤left)(r_:left<9223372036854775808)(mask:Nat){keep:Bool}(PT:keep=(left==0||(left==1&&mask%2==1))):aC prog 179 [.pointer (some ⟨x,0,none⟩)] w fun r w'=>r=.bool true∧ae fp w w'∧∀w1,ae [] w' w1→aC prog 182 [.pointer (some ⟨d,0,none⟩),.int .u64 (mask:Nat)] w1 fun r cg=>r=.tuple #[]∧∃pv,Dk R B cg d q pv (iB d_ (Q++[bA]) inp keep z).lf.p (iB d_ (Q++[bA]) inp keep z).KW (iB d_ (Q++[bA]) inp keep z).gen∧Enc (iB d_ (Q++[bA]) inp keep z).KW (iB d_ (Q++[bA]) inp keep z).lf.k∧(iB d_ (Q++[bA]) inp keep z).KW.length=112∧ae [d] w1 cg∧∀k∈d::q::aW pv,k∈fp∨w.heap.size≤k:=by
 by_cases h0:left=0
 ·subst h0;have ah:keep=true:=by rw[PT];rfl
  rw[ah];refine(Lm.step h ho hi (by
   unfold eG at gQ;simp only[Bool.and_eq_true,decide_eq_true_eq]at gQ;exact gQ.1)).mono ?_
  rintro r w'⟨rfl,fp',h',hk,hf⟩;refine⟨rfl,hk,fun w1 ah=>((h'.aA ah).D_ mask).mono ?_⟩;rintro r cg⟨rfl,pv,hd,an,mF⟩;exact⟨rfl,pv,hd,h'.2.1,h'.2.2,an,fun k hk=>hf k (mF k hk)⟩
 ·obtain⟨⟨m,h⟩,he,hl⟩:=h;have ff:d∈fp∧¬R d:=by
   obtain⟨d',s,S,W',D,wv,cv,iv,pv,rfl,h,_,rfl,_⟩:=h;have:d'∈vS x d' s m wv q pv iv:=dU.2 (.inr (.inr (.inr (.inl (by simp[dh])))));exact⟨this,h.nr _ this⟩
  have hlen:=h.len;have arS:=h.enc;have u3:=ho.cells;refine(aff h.m (ho.at m q left) hi gQ (by show 0<left;omega) r_).mono ?_;rintro r w'⟨rfl,ht,hk⟩;refine⟨rfl,hk,fun w1 ah=>?_⟩;obtain⟨W2,hE,Aq,hr⟩:=(ht.aA ah).dk (by show 0<left;omega) ff.1 ff.2 mask;have aZ:(eD (Q++[bA]) inp z.lf.m z.lf.p)=({z.lf.m with next:=z.lf.m.next+1},z.lf.p):=by
   unfold eG at gQ;simp only[Bool.and_eq_true,decide_eq_true_eq]at gQ;obtain⟨hs,ng⟩:=gQ;unfold eD;rw[if_pos hs];generalize(Q++[bA]).getD z.lf.m.next (0,0,0,0)=y at ng⊢;obtain⟨op,A,K,N⟩:=y;simp only at ng;subst ng;rfl
  have za:W2=d_ (Q++[bA]) inp z.lf.m z.W:=by
   unfold d_;rw[Yc _ _ _ _ z.lf.p,aZ];exact hE.b.whole Aq hlen u3
  refine hr.mono ?_;rintro r cg⟨rfl,pv,hd,an,mF⟩;refine⟨rfl,pv,?_⟩;by_cases hc:left=1∧mask%2=1
  ·have xD:keep=true:=by rw[PT];simp[hc.1,hc.2]
   have e:iB d_ (Q++[bA]) inp keep z=⟨iP (Q++[bA]) inp true z.lf,d_ (Q++[bA]) inp z.lf.m z.W,d_ (Q++[bA]) inp z.lf.m z.W,z.gen+1⟩:=by
    unfold iB;rw[xD,gQ];rfl
   have rD:Dk R B cg d q pv z.lf.p W2 (z.gen+1):=by
    have h7:Dk R B cg d q pv z.lf.p (if left=1∧mask%2=1 then W2 else z.KW) (if left=1∧mask%2=1 then z.gen+1 else z.gen):=hd
    rwa [if_pos hc,if_pos hc]at h7
   rw[e];refine⟨?_,?_,?_,an,fun k hk=>.inl (mF k hk)⟩
   ·show Dk R B cg d q pv (eD (Q++[bA]) inp z.lf.m z.lf.p).2 _ _;rw[aZ,←za];exact rD
   ·show Enc _ (if(true&&eG (Q++[bA]) z.lf.m)=true then(eD (Q++[bA]) inp z.lf.m z.lf.p).1 else z.lf.k);rw[gQ,if_pos (by rfl),aZ,←za];exact hE.toEnc
   ·rw[←za];exact Aq
  ·have xD:keep=false:=by
    rw[PT];by_cases h1:left=1
    ·have:¬mask%2=1:=fun h=>hc ⟨h1,h⟩;simp[h1,this]
    ·simp[h0,h1]
   have e:iB d_ (Q++[bA]) inp keep z=⟨iP (Q++[bA]) inp false z.lf,d_ (Q++[bA]) inp z.lf.m z.W,z.KW,z.gen⟩:=by
    unfold iB;rw[xD];rfl
   have rD:Dk R B cg d q pv z.lf.p z.KW z.gen:=by
    have h7:Dk R B cg d q pv z.lf.p (if left=1∧mask%2=1 then W2 else z.KW) (if left=1∧mask%2=1 then z.gen+1 else z.gen):=hd
    rwa [if_neg hc,if_neg hc]at h7
   rw[e];refine⟨?_,he,hl,an,fun k hk=>.inl (mF k hk)⟩;show Dk R B cg d q pv (eD (Q++[bA]) inp z.lf.m z.lf.p).2 _ _;rw[aZ];exact rD
theorem Dk.mem{pv:Value}{p:Pr}{KW:List Int}{g:Int}{s:Nat}(h:Dk R B w d q pv p KW g)(hs:oL w s d):aC prog 174 [.pointer (some ⟨s,0,none⟩)] w fun v w'=>∃m,v=.pointer (some ⟨m,0,none⟩)∧w.heap.size≤m∧mw w' m s KW (List.replicate 14 false)∧ae [] w w':=by
 obtain⟨⟨S,h1,h2,rfl,_⟩,_⟩:=h;exact aio hs h1
theorem Dk.Lv{pv cv iv:Value}{p:Pr}{g:Int}{s m:Nat}{KW:List Int}{k:Md}{W:List Int}{mm:Md}(h:Dk R B w d q pv p KW g)(hs:oL w s d)(hsB:B≤s∧¬R s)(hm:mw w m s KW (List.replicate 14 false))(hmB:B≤m∧¬R m)(he:Enc KW k)(hc:k.cells.length≤48)(hl:KW.length=112) (cL:lC R w cv L)(od:Su R w iv inp)(fF:inp.length≤1000000):aC prog 173 [.pointer (some ⟨m,0,none⟩),cv,iv,.pointer (some ⟨q,0,none⟩)] w fun r w'=>∃x fp,r=.pointer (some ⟨x,0,none⟩)∧Lm R B w' d q L inp x fp (Ea ⟨⟨mm,k,p⟩,W,KW,g⟩)∧ae [] w w'∧∀b∈fp,b∈d::q::aW pv∨b=s∨b=m∨w.heap.size≤b:=by
 obtain⟨⟨S,h1,h2,rfl,rfl⟩,hp,ze⟩:=h;have aZ:St B w d s m S (mu S) (List.replicate 14 false) (.slice none 0 0):=aip hm hs h1 h2 (ae.refl _ _) hmB.1;have dE:∀b∈uG d s m (.slice none 0 0),b=m∨b=s∨b=d:=fun b hb=>by
  simpa[uG,dh,Value.ownBlock]using hb
 refine(alc (Y:=Yk d (mu S)) (Z:=mu S) (md:=k) aZ hsB.1 (fun b hb=>?_) ⟨he,fun _ _=>rfl⟩ ⟨rfl,rfl⟩ ⟨pv,rfl,hp⟩ cL od hp.ro fF).mono ?_
 ·rcases dE b hb with rfl|rfl|rfl
  ·exact hmB.2
  ·exact hsB.2
  ·exact ze
 ·rintro r w'⟨x,fp,rfl,hv,hk,hf⟩;refine⟨x,fp,rfl,⟨⟨m,Vm.wds hv he hl hc⟩,he,hl⟩,hk,fun b hb=>?_⟩;rcases hf b hb with h3|h3|h3
  ·rcases dE b h3 with rfl|rfl|rfl
   ·exact .inr (.inr (.inl rfl))
   ·exact .inr (.inl rfl)
   ·exact .inl (by simp)
  ·exact .inl (List.mem_cons_of_mem _ h3)
  ·exact .inr (.inr (.inr h3))
end
theorem bl.R3{w:World}{B:Nat}{v:Value}{l:List Int}(h:bl w B v l):xB w v l:=⟨h.nQ,fun a n cap e=>by
 subst e;rcases h.2 with⟨e,_⟩|⟨g,iF,cur,e,_,_,hc,_⟩
 ·cases e;exact Nat.le_refl _
 ·cases e;exact hc⟩
theorem bl.nw{w w0:World}{v:Value}{l:List Int}(h:bl w w0.heap.size v l):Nw w0 v:=fun b q n c e h0=>by
 subst e;rcases h.2 with⟨e,_⟩|⟨g,iF,cur,e,hB,_⟩
 ·cases e
 ·cases e;exact hB
section
variable{R:Nat→Prop}{B:Nat}{w w':World}{x d q c i:Nat}{fp kB:List Nat}{L Q:List Is}{inp:List Int}{z:Lz}
theorem Lm.result(h:Lm R B w d q L inp x fp z)(hp:z.lf.p.2=false)(aZ:z.lf.m.state≤1000)(EM:z.lf.p.1.length≤400000)(hc:z.lf.m.cells.length≤48){n:Nat}(hn:n=z.lf.m.cells.length):aC prog 102 [.pointer (some ⟨x,0,none⟩),.int .i64 (n:Nat)] w fun r w'=>(∃ov cv,r=.agg (cI (lU z.lf.m z.lf.p) ov cv).toArray∧xB w' ov z.lf.p.1∧eS w' cv z.lf.m.cells∧Nw w ov∧Nw w cv)∧ae [] w w':=by
 obtain⟨⟨m,h⟩,_⟩:=h;refine(aeh h.m hp aZ EM hc (n:=n) (by show n≤z.lf.m.cells.length;omega)).mono ?_;rintro r w'⟨⟨ov,cv,rfl,h1,h2⟩,hk⟩;have e:z.lf.m.cells.take n=z.lf.m.cells:=by rw[hn,List.take_length]
 have h2:bl w' w.heap.size cv (z.lf.m.cells.take n):=h2;rw[e]at h2;have h1:bl w' w.heap.size ov z.lf.p.1:=h1;exact⟨⟨ov,cv,rfl,h1.R3,h2.nQ,h1.nw,h2.nw⟩,hk⟩
end
theorem jH.lo{vs:List aJ}{body:List ST}{inp:List Int}{z:Lz}{i:Nat}(h:jH vs body inp z i)(cX:dq vs body=0)(bw:cu body≤1000)(fF:inp.length≤40):Lo (aT vs).toNat i (cN vs body 0) inp z∧(z.lf.k.cells.length:Int)=(aT vs).toNat∧(z.lf.m.cells.length:Int)=(aT vs).toNat∧(aT vs).toNat≤48∧z.lf.p.2=false:=by
 obtain⟨⟨g0,g1⟩,g,hg,hI⟩:=h;obtain⟨c,hc,Al,hP⟩:=zv cX bw;have lI:c=(aT vs).toNat:=by omega
 subst lI;obtain⟨f1,f2,f3,f4,f5,f6,f7⟩:=jd.fit hI hP;exact⟨⟨hP,Al,rfl,f1,by show inp.length≤1000;omega,by show z.lf.p.1.length≤i;omega,by show z.lf.m.read≤i;omega,g0,g1,f4⟩,f6,f1.cells,Al,f7⟩
theorem jH.one{vs:List aJ}{body:List ST}{inp:List Int}{z:Lz}{i:Nat}{nw:List Is→List Int→Md→List Int→List Int}(h:jH vs body inp z i)(keep:Bool):jH vs body inp (iB nw (bB vs body) inp keep z) (i+1):=by
 obtain⟨⟨g0,g1⟩,g,hg,hI⟩:=h;obtain⟨a1,a2⟩:=Jx (nw:=nw) (L:=bB vs body) (inp:=inp) keep z;obtain⟨g',b1,b2,b3⟩:=hI.step keep;exact⟨⟨by omega,by omega⟩,g',by omega,by rw[JQ];exact b3⟩
abbrev tLf:Nat:=166
def Sv(mv:Value)(d q:Nat)(cv iv:Value)(n:Nat):List Value:=[mv,.pointer (some ⟨d,0,none⟩),cv,iv,.pointer (some ⟨q,0,none⟩),.int .i64 (n:Nat)]
structure uH(rd:List Nat)(B:Nat)(w:World)(y:Nat)(mv:Value)(d q:Nat)(cv iv:Value)(L:List Is)(ip:List Int)(n:Nat):Prop where
 af:ak w y (Sv mv d q cv iv n) tLf
 code:lC (·∈rd) w cv L
 inp:Su (·∈rd) w iv ip
 ge:B≤y
 low:∀k∈rd,B≤k∧k<w.heap.size
 MH:y∉rd
 il:ip.length≤40
def LV(vs:List aJ)(body:List ST)(inp:List Int)(B:Nat)(w:World)(y:Nat)(fp:List Nat)(z:Lz):Prop:=
 ∃x d q cv iv rd fm,fp=y::(fm++rd)∧uH rd B w y (.pointer (some ⟨x,0,none⟩)) d q cv iv (bB vs body) inp (aT vs).toNat∧Lm (·∈rd) B w d q (bB vs body) inp x fm z∧y∉fm
section
variable{rd:List Nat}{B:Nat}{w w':World}{y d q n:Nat}{mv cv iv:Value}{L:List Is}{inp:List Int}{kB:List Nat}
theorem uH.keep(h:uH rd B w y mv d q cv iv L inp n)(hk:ae kB w w')(hn:∀k∈kB,k≠y∧k∉rd):uH rd B w' y mv d q cv iv L inp n:=by
 refine⟨hk.af h.af fun hm=>(hn y hm).1 rfl,h.code.keep hk fun c hR=>⟨(h.low c hR).2,fun hm=>(hn c hm).2 hR⟩,?_,h.ge,fun k aK=>⟨(h.low k aK).1,Nat.lt_of_lt_of_le (h.low k aK).2 hk.size⟩,h.MH,h.il⟩;obtain⟨a,cap,e,h2⟩:=h.inp;refine⟨a,cap,e,fun h0=>?_⟩;obtain⟨b,q,e1,hR,hr⟩:=h2 h0;exact⟨b,q,e1,hR,ft hr hk (h.low b hR).2 fun hm=>(hn b hm).2 hR⟩
theorem uH.aA(h:uH rd B w y mv d q cv iv L inp n)(hk:ae [] w w'):uH rd B w' y mv d q cv iv L inp n:=h.keep hk fun k hk=>by cases hk
end
section
variable{vs:List aJ}{body:List ST}{inp:List Int}{B:Nat}{w w':World}{y:Nat}{fp kB:List Nat}{z:Lz}
theorem LV.lt(h:LV vs body inp B w y fp z):∀k∈fp,B≤k∧k<w.heap.size:=by
 obtain⟨x,d,q,cv,iv,rd,fm,rfl,h1,h2,h3⟩:=h;intro k hk;simp only[List.mem_cons,List.mem_append]at hk;rcases hk with rfl|hk|hk
 ·exact⟨h1.ge,h1.af.lt⟩
 ·exact⟨(h2.lt k hk).1,(h2.lt k hk).2.1⟩
 ·exact h1.low k hk
theorem LV.keep(h:LV vs body inp B w y fp z)(hk:ae kB w w')(hn:∀k∈kB,k∉fp):LV vs body inp B w' y fp z:=by
 obtain⟨x,d,q,cv,iv,rd,fm,rfl,h1,h2,h3⟩:=h;refine⟨x,d,q,cv,iv,rd,fm,rfl,h1.keep hk fun k hm=>⟨fun e=>hn k hm (by simp[e]),fun e=>hn k hm (by simp[e])⟩,h2.keep hk fun k hm=>⟨fun e=>hn k hm (by simp[e]),fun e=>hn k hm (by simp[e])⟩,h3⟩
end
theorem WS{vs:List aJ}{body:List ST}{inp:List Int}{rd:List Nat}{B:Nat}{w:World}{y d q n:Nat}{mv cv iv pv:Value}{p:Pr}{KW W:List Int}{g:Int}{k mm:Md}(h:uH rd B w y mv d q cv iv (bB vs body) inp n)(hn:n=(aT vs).toNat)(hd:Dk (·∈rd) B w d q pv p KW g)(hy:y∉d::q::aW pv)(he:Enc KW k)(hc:k.cells.length≤48)(hl:KW.length=112)(fF:inp.length≤1000000):aC prog 136 [.pointer (some ⟨y,0,none⟩)] w fun r w'=>r=.tuple #[]∧∃fp',LV vs body inp B w' y fp' (Ea ⟨⟨mm,k,p⟩,W,KW,g⟩)∧ae [y] w w'∧∀b∈fp',b=y∨b∈d::q::aW pv∨b∈rd∨w.heap.size≤b:=by
 obtain⟨ca,cA,cL⟩:=h.code.form;subst cL;obtain⟨ia,gN,od,Sj⟩:=h.inp;subst od;have Mw:=h.af.lt;have uD:B≤w.heap.size:=Nat.le_trans h.ge (Nat.le_of_lt Mw);refine aG 24 func136 ?_;refine bC (fun w'=>ae [] w w') [22] bE ?_;have hS:ae [] w w.drew:=(ae.refl _ _).drew;generalize w.drew=w1 at*;refine tk 0 ?_;refine tk 1 ?_;refine tk 2 ?_;refine tk 3 ?_;refine aI 4 (.pointer (some ⟨d,0,none⟩)) rfl (fun w9 aq=>aB rfl ((h.aA aq).af.cell rfl)) hS ?_;refine tk 7 ?_;refine tk 8 ?_;refine tk 9 ?_;refine aI 10 (.slice ca (bB vs body).length cA) rfl (fun w9 aq=>aB rfl ((h.aA aq).af.cell rfl)) hS ?_;refine tk 11 ?_;refine tk 12 ?_;refine tk 13 ?_;refine aI 14 (.slice ia inp.length gN) rfl (fun w9 aq=>aB rfl ((h.aA aq).af.cell rfl)) hS ?_;refine tk 15 ?_;refine tk 16 ?_;refine tk 17 ?_;refine aI 18 (.pointer (some ⟨q,0,none⟩)) rfl (fun w9 aq=>aB rfl ((h.aA aq).af.cell rfl)) hS ?_;refine dC 5 (air d w1) ?_;rintro r w2⟨rfl,cE,an⟩;have l9:=hS.tr an;refine⟨fun _=>l9,?_⟩;have an5:=hS.size;have arT:=cE.lt;refine dC 6 ((hd.aA l9).mem cE) ?_;rintro r w3⟨m,rfl,EY,lE,aw⟩;have kv:=l9.tr aw;refine⟨fun _=>kv,?_⟩;have sZ:=an.size;have h3:=h.aA kv;have nr:∀{k:Nat},w.heap.size≤k→k∉rd:=fun{k} hk hm=>by
  have:=(h.low k hm).2;omega
 refine dC 19 (Dk.Lv (mm:=mm) (W:=W) (hd.aA kv) (aw.af cE (by simp)) ⟨by omega,nr an5⟩ lE ⟨by omega,nr (by omega)⟩ he hc hl h3.code h3.inp fF) ?_;rintro r w4⟨x,fm,rfl,xw,ax,nq⟩;have gR:=kv.tr ax;have h4:=h.aA gR;refine⟨fun _=>gR,?_⟩;have Qf:=aw.size;refine tk 20 ?_;refine tk 21 ?_;refine a8 22 rfl (aH [.pointer (some ⟨x,0,none⟩)] rfl (by kernel_rfl) h4.af (by simp[Sv]) (nL rfl) ?_);intro w5 iV aE cr;refine⟨fun h=>absurd (by simp) h,?_⟩;refine bm ?_;have IC:y∉fm:=fun hm=>by
  rcases nq y hm with h5|h5|h5|h5
  ·exact hy h5
  ·omega
  ·omega
  ·omega
 have h5:uH rd B w5 y (.pointer (some ⟨x,0,none⟩)) d q (.slice ca (bB vs body).length cA) (.slice ia inp.length gN) (bB vs body) inp n:=by
  have MI:∀k∈[y],k∉rd:=fun k hk hm=>h.MH (by rw[←List.mem_singleton.1 hk];exact hm);refine⟨cr,h4.code.keep aE fun c hR=>⟨(h4.low c hR).2,fun hm=>MI c hm hR⟩,?_,h.ge,fun k aK=>⟨(h4.low k aK).1,Nat.lt_of_lt_of_le (h4.low k aK).2 aE.size⟩,h.MH,h.il⟩;obtain⟨a,cap,e,h2⟩:=h4.inp;refine⟨a,cap,e,fun h0=>?_⟩;obtain⟨b,q,e1,hR,hr⟩:=h2 h0;exact⟨b,q,e1,hR,ft hr aE (h4.low b hR).2 fun hm=>MI b hm hR⟩
 refine au ?_;refine bK func136 rfl ⟨rfl,_,⟨x,d,q,_,_,rd,fm,rfl,hn▸h5,xw.keep aE (fun k hk=>?_),IC⟩,gR.bG.tr aE,?_⟩
 ·rw[List.mem_singleton.1 hk];exact⟨h.MH,IC⟩
 ·intro b hb;simp only[List.mem_cons,List.mem_append]at hb;rcases hb with hb|hb|hb
  ·exact .inl hb
  ·rcases nq b hb with h6|h6|h6|h6
   ·exact .inr (.inl h6)
   ·exact .inr (.inr (.inr (by omega)))
   ·exact .inr (.inr (.inr (by omega)))
   ·exact .inr (.inr (.inr (by omega)))
  ·exact .inr (.inr (.inl hb))
theorem afg(s:Sp)(w:World):aC prog 138 [.agg (jU s).toArray] w fun r w'=>r=.int .i64 (jA s)∧ae [] w w':=by
 obtain⟨kd,N,K,mk⟩:=s;refine aG 40 func138 ?_;refine au ?_;refine aj (bY (jU (kd,N,K,mk)) rfl ?_);intro w1 x1 cJ bt ah aM;have e2:¬(kd=1∨kd=2∨kd=3)→jA (kd,N,K,mk)=2:=fun h=>by
  unfold jA;simp only;rw[if_pos (by omega)]
 have e1:(kd=1∨kd=2∨kd=3)→(kd≠2∧(N<0∨3000<N)∨kd=3∧K<0)→jA (kd,N,K,mk)=1:=fun h h'=>by
  unfold jA;simp only;rw[if_neg (by omega),if_pos h']
 have e0:(kd=1∨kd=2∨kd=3)→¬(kd≠2∧(N<0∨3000<N)∨kd=3∧K<0)→jA (kd,N,K,mk)=0:=fun h h'=>by
  unfold jA;simp only;rw[if_neg (by omega),if_neg h']
 by_cases h0:kd=1∨kd=2∨kd=3
 rotate_left
 ·refine aU ?_;exact ay func138 rfl ⟨by rw[e2 h0],ah⟩
 by_cases h2:kd=2
 ·have hr:=e0 h0 (by omega);refine aU ?_;exact ay func138 rfl ⟨by rw[hr],ah⟩
 by_cases hN:N<0
 ·have hr:=e1 h0 (by omega);by_cases h1:kd=1
  ·refine aU ?_;exact ay func138 rfl ⟨by rw[hr],ah⟩
  ·have h3:kd=3:=by omega
   refine aU ?_;exact ay func138 rfl ⟨by rw[hr],ah⟩
 by_cases xL:3000<N
 ·have hr:=e1 h0 (by omega);by_cases h1:kd=1
  ·refine aU ?_;exact ay func138 rfl ⟨by rw[hr],ah⟩
  ·have h3:kd=3:=by omega
   refine aU ?_;exact ay func138 rfl ⟨by rw[hr],ah⟩
 by_cases h1:kd=1
 ·have hr:=e0 h0 (by omega);refine aU ?_;exact ay func138 rfl ⟨by rw[hr],ah⟩
 have h3:kd=3:=by omega
 by_cases hK:K<0
 ·have hr:=e1 h0 (by omega);refine aU ?_;exact ay func138 rfl ⟨by rw[hr],ah⟩
 ·have hr:=e0 h0 (by omega);refine aU ?_;exact ay func138 rfl ⟨by rw[hr],ah⟩
section
variable{vs:List aJ}{body:List ST}{inp:List Int}{B:Nat}{w w':World}{x y d q i:Nat}{fp fm AP rd:List Nat}{cv iv:Value}{z z':Lz}
theorem LV.put(h1:uH rd B w y (.pointer (some ⟨x,0,none⟩)) d q cv iv (bB vs body) inp (aT vs).toNat)(IC:y∉fm)(hm:Lm (·∈rd) B w d q (bB vs body) inp x fm z)(hm':Lm (·∈rd) B w' d q (bB vs body) inp x AP z')(hk:ae fm w w')(hf:∀k∈AP,k∈fm∨w.heap.size≤k):LV vs body inp B w' y (y::(AP++rd)) z':=by
 refine⟨x,d,q,cv,iv,rd,AP,rfl,h1.keep hk fun k hk=>⟨fun e=>IC (e▸hk),(hm.lt k hk).2.2⟩,hm',fun h=>?_⟩;rcases hf y h with h2|h2
 ·exact IC h2
 ·have:=h1.af.lt;omega
theorem Tl{A:Nat→Prop}{mv:Value}{n mk:Nat}{p:Pr}{KW W:List Int}{g:Int}{k mm:Md}(h:uH rd B w y mv d q cv iv (bB vs body) inp n)(hn:n=(aT vs).toNat) (dN:aC prog 182 [.pointer (some ⟨d,0,none⟩),.int .u64 (mk:Nat)] w fun r w'=>r=.tuple #[]∧∃pv,Dk (·∈rd) B w' d q pv p KW g∧Enc KW k∧KW.length=112∧ae [d] w w'∧∀b∈d::q::aW pv,b≠y∧b∉rd∧A b) (hc:k.cells.length≤48)(fF:inp.length≤1000000):aC prog 141 [.pointer (some ⟨y,0,none⟩),.int .u64 (mk:Nat)] w fun r w'=>r=.tuple #[]∧∃fp',LV vs body inp B w' y fp' (Ea ⟨⟨mm,k,p⟩,W,KW,g⟩)∧ae [d,y] w w'∧A d∧∀b∈fp',b=y∨A b∨b∈rd∨w.heap.size≤b:=by
 refine aG 12 func141 ?_;refine lB h.af ?_;refine au ?_;refine aj (aV (fst:=[]) (cap:=[]) rfl (dN.mono ?_));rintro r w1⟨rfl,pv,js,he,hl,ah,uI⟩;have Sw:=uI d (by simp);refine oC (WS (mm:=mm) (W:=W) (h.keep ah fun b hb=>by rw[List.mem_singleton.1 hb];exact⟨Sw.1,Sw.2.1⟩) hn js (fun hm=>(uI y hm).1 rfl) he hc hl fF) ?_;rintro r w2⟨rfl,fp',h2,an,mF⟩;have bt:=ah.size;refine au ?_;refine bK func141 rfl ⟨rfl,fp',h2,?_,Sw.2.2,fun b hb=>?_⟩
 ·exact(ah.mono fun b hb=>.inl (by rw[List.mem_singleton.1 hb];simp)).tr (an.mono fun b hb=>.inl (by rw[List.mem_singleton.1 hb];simp))
 ·rcases mF b hb with h6|h6|h6|h6
  ·exact .inl h6
  ·exact .inr (.inl (uI b h6).2.2)
  ·exact .inr (.inr (.inl h6))
  ·exact .inr (.inr (.inr (by omega)))
theorem aei(n:Nat)(h:LV vs body inp B w y fp z)(hz:jH vs body inp z i)(hi:i≤300000)(cX:dq vs body=0)(bw:cu body≤1000)(fF:inp.length≤40)(hn:n≤3000):aC prog 139 [.pointer (some ⟨y,0,none⟩),.int .i64 (n:Nat)] w fun r w'=>r=.int .i64 ((oU d_ (bB vs body) inp n z).2:Nat)∧∃fp',LV vs body inp B w' y fp' (oU d_ (bB vs body) inp n z).1∧ae fp w w'∧∀k∈fp',k∈fp∨w.heap.size≤k:=by
 refine aG 19 func139 ?_;refine au ?_;refine cP (fun t σ w'=>∃(j:Nat) (fp':List Nat) (z':Lz),j≤n∧t=n-j∧σ=[(0,.pointer (some ⟨y,0,none⟩)),(1,.int .i64 (n:Nat)),(6,.int .i64 (n:Nat)),(7,.int .i64 (j:Nat))]∧LV vs body inp B w' y fp' z'∧jH vs body inp z' (i+j)∧
   oU d_ (bB vs body) inp n z=((oU d_ (bB vs body) inp (n-j) z').1,(oU d_ (bB vs body) inp (n-j) z').2+j)∧ae fp w w'∧∀k∈fp',k∈fp∨w.heap.size≤k)
  n _ ?_ ⟨0,fp,z,Nat.zero_le _,rfl,rfl,h,hz,rfl,ae.refl _ _,fun k hk=>.inl hk⟩ ?_
 ·exact⟨rfl,rfl,rfl,rfl,trivial⟩
 rintro t σ w3 ih⟨j,fp',z',hj,rfl,rfl,h3,fe,mx,aw,ju⟩;have Qf:=aw.size;refine au ?_;by_cases az:j<n
 rotate_left
 ·have uB:j=n:=by omega
  subst uB;refine aL ?_;refine au ?_;rw[Nat.sub_self]at mx;rw[mx];refine ay func139 rfl ⟨by simp[oU],fp',h3,aw,ju⟩
 refine ye ?_;obtain⟨x,d,q,cv,iv,rd,fm,dP,l1,l2,l3⟩:=h3;obtain⟨Ew,an6,an7,_,_⟩:=fe.lo cX bw fF;obtain⟨r,hr⟩:∃r,n-j=r+1:=⟨n-j-1,by omega⟩;rw[hr]at mx;simp only[oU]at mx;refine lB l1.af ?_;by_cases kb:z'.lf.m.state=0
 rotate_left
 ·rw[if_neg kb]at mx;refine oC (l2.off kb) ?_;rintro r w5⟨rfl,aE⟩;refine au ?_;rw[mx];refine ay func139 rfl ⟨by simp,_,LV.put l1 l3 l2 (l2.aA aE) aE.bG (fun k hk=>.inl hk),aw.dt aE,fun k hk=>ju k (by rw[dP];exact hk)⟩
 rw[if_pos kb]at mx;refine oC (l2.step Ew (by omega) kb) ?_;rintro r w5⟨rfl,AP,xm,aE,lr⟩;have Sy:=LV.put l1 l3 l2 xm aE lr;have iz:=fe.one (nw:=d_) true;have kN:ae fp' w3 w5:=aE.mono fun k hk=>.inl (by rw[dP];simp[hk]);refine nM ((j+1:Nat):Int) ?_;refine au ?_;refine bj ?_ (ih (n-(j+1)) [(0,.pointer (some ⟨y,0,none⟩)),(1,.int .i64 (n:Nat)),(6,.int .i64 (n:Nat)),(7,.int .i64 ((j+1:Nat):Int))] w5 (by omega) ⟨j+1,_,_,by omega,rfl,rfl,Sy,iz,?_,aw.trans kN (fun k hm=>ju k hm),?_⟩)
 ·exact⟨rfl,rfl,rfl,rfl,trivial⟩
 ·rw[mx,show n-(j+1)=r by omega];simp only[Nat.add_assoc,Nat.add_comm 1 j];rfl
 ·intro k hk;simp only[List.mem_cons,List.mem_append]at hk;have pL:k∈fp'→k∈fp∨w.heap.size≤k:=ju k;rcases hk with hk|hk|hk
  ·exact pL (by rw[dP,hk];simp)
  ·rcases lr k hk with h6|h6
   ·exact pL (by rw[dP];simp[h6])
   ·exact .inr (by omega)
  ·exact pL (by rw[dP];simp[hk])
end
section
variable{vs:List aJ}{body:List ST}{inp:List Int}{B:Nat}{w w':World}{x y d q i:Nat}{fp fm AP rd:List Nat}{cv iv:Value}{z z':Lz}
theorem adx{kd K:Int}{n mk:Nat}{kp:Bool}(h:LV vs body inp B w y fp z)(hz:jH vs body inp z i)(hi:i≤300000)(cX:dq vs body=0)(bw:cu body≤1000)(fF:inp.length≤40)(hn:n≤3000)(ME:0≤K)(hK:K<9223372036854775808)(Fe:kp=qd (kd,(n:Int),K,mk)):aC prog 140 [.pointer (some ⟨y,0,none⟩),.agg (jU (kd,(n:Int),K,mk)).toArray] w fun r w'=>r=.int .i64 ((oP d_ (bB vs body) inp kp n z).2:Nat)∧∃fp',LV vs body inp B w' y fp' (oP d_ (bB vs body) inp kp n z).1∧ae fp w w'∧∀k∈fp',k∈fp∨w.heap.size≤k:=by
 refine aG 44 func140 ?_;refine au ?_;refine aj (bY (jU (kd,(n:Int),K,mk)) rfl ?_);intro w2 x1 cJ cE br aX;have h2:=h.keep br (fun k hk=>by cases hk);have Li:x1∉fp:=fun hm=>by
  have:=(h.lt x1 hm).2;omega
 have al6:=br.size;have gi:=aX.lt;refine lB aX ?_;refine au ?_;refine cP (fun t σ w'=>∃(j:Nat) (fp':List Nat) (z':Lz),j≤n∧t=n-j∧σ=[(0,.pointer (some ⟨y,0,none⟩)),(3,.pointer (some ⟨x1,0,none⟩)),(7,.int .i64 (n:Nat)),(8,.int .i64 (j:Nat))]∧LV vs body inp B w' y fp' z'∧jH vs body inp z' (i+j)∧
   oP d_ (bB vs body) inp kp n z=((oP d_ (bB vs body) inp kp (n-j) z').1,(oP d_ (bB vs body) inp kp (n-j) z').2+j)∧ae fp w2 w'∧∀k∈fp',k∈fp∨w2.heap.size≤k)
  n _ ?_ ⟨0,fp,z,Nat.zero_le _,rfl,rfl,h2,hz,rfl,ae.refl _ _,fun k hk=>.inl hk⟩ ?_
 ·exact⟨rfl,rfl,rfl,rfl,trivial⟩
 rintro t σ w3 ih⟨j,fp',z',hj,rfl,rfl,h3,fe,mx,aw,ju⟩;have aQ:=aw.af aX Li;have Qf:=aw.size;have done:∀{w':World} {kB:List Nat} {z2:Lz},LV vs body inp B w' y kB z2→ae fp' w3 w'→(∀k∈kB,k∈fp'∨w3.heap.size≤k)→∃fp',LV vs body inp B w' y fp' z2∧ae fp w w'∧∀k∈fp',k∈fp∨w.heap.size≤k:=fun{w' kB z2} hl hk hf=>by
  refine⟨kB,hl,br.bG.tr (aw.trans hk fun k hm=>ju k hm),fun k hk=>?_⟩;rcases hf k hk with h5|h5
  ·rcases ju k h5 with h6|h6
   ·exact .inl h6
   ·exact .inr (by omega)
  ·exact .inr (by omega)
 refine au ?_;by_cases az:j<n
 rotate_left
 ·have uB:j=n:=by omega
  subst uB;refine aL ?_;refine lB aQ ?_;refine au ?_;rw[Nat.sub_self]at mx;rw[mx];refine ay func140 rfl ⟨by simp[oP],done h3 (ae.refl _ _) fun k hk=>.inl hk⟩
 refine ye ?_;obtain⟨x,d,q,cv,iv,rd,fm,dP,l1,l2,l3⟩:=h3;obtain⟨Ew,an6,an7,_,_⟩:=fe.lo cX bw fF;obtain⟨r,hr⟩:∃r,n-j=r+1:=⟨n-j-1,by omega⟩;rw[hr]at mx;simp only[oP]at mx;have inf:∀k∈fm,k∈fp':=fun k hk=>by rw[dP];simp[hk]
 refine lB l1.af ?_;refine oC (l2.akc Ew) ?_;rintro r' w4⟨rfl,ax⟩;have s4:=ax.size;by_cases gQ:eG (bB vs body) z'.lf.m=true
 ·rw[show eG (cN vs body 0++[bA]) z'.lf.m=true from gQ];rw[if_pos gQ]at mx;refine au ?_;have Fh:=l1.aA ax;have CY:=l2.aA ax;have a_:=ax.af aQ (by simp);refine bC (fun w'=>ae [] w4 w') [6] bE ?_;have hS:ae [] w4 w4.drew:=(ae.refl _ _).drew;generalize w4.drew=w5 at*;refine tk 0 ?_;refine tk 1 ?_;refine tk 2 ?_;refine aI 3 (.pointer (some ⟨x,0,none⟩)) rfl (fun w9 aq=>aB rfl ((Fh.aA aq).af.cell rfl)) hS ?_;refine tk 4 ?_;refine aI 5 (.int .i64 K) rfl (fun w9 aq=>aB rfl ((aq.af a_ (by simp)).cell rfl)) hS ?_;have l1:=Fh.aA hS;have l2:=CY.aA hS;have cr:=hS.af a_ (by simp);refine dC 6 (l2.Lu Ew.cells K) ?_;rintro r' w6⟨rfl,lt6,aD⟩;refine⟨fun h=>absurd (by simp) h,?_⟩;refine bm ?_;have MJ:∀k∈fm,k≠y∧k∉rd:=fun k hk=>⟨fun e=>l3 (e▸hk),(l2.lt k hk).2.2⟩;have fmx:x1∉fm:=fun hm=>by
   rcases ju x1 (inf x1 hm)with h6|h6
   ·exact Li h6
   ·omega
  have l6:=l1.keep aD MJ;have dM:=aD.af cr fmx;refine lB l6.af ?_;refine oC (lt6.al5 Ew (by omega) gQ ME hK mk (keep:=kp) (by rw[Fe];rfl)) ?_;rintro r' w7⟨rfl,aN,dN⟩;have l7:=l6.keep aN MJ;have eC:=aN.af dM fmx;have s5:=hS.size;have s6:=aD.size;have s7:=aN.size;have Mw:=l6.af.lt;refine lB eC ?_;have rE:=fe.one (nw:=d_) kp;obtain⟨_,an8,_,arU,_⟩:=rE.lo cX bw fF;obtain⟨zz,r9⟩:∃zz,zz=iB d_ (bB vs body) inp kp z':=⟨_,rfl⟩;have aap:=dN w7 (ae.refl _ _);rw[show iB d_ (cN vs body 0++[bA]) inp kp z'=zz from r9.symm]at aap;rw[←r9]at an8 mx;refine aj (aV (fst:=[]) (cap:=[]) rfl ((Tl (A:=fun b=>b∈fm∨w6.heap.size≤b) (mm:=zz.lf.m) (W:=zz.W) (k:=zz.lf.k) (p:=zz.lf.p) (KW:=zz.KW) (g:=zz.gen) l7 rfl (aap.mono ?_) (by
   have:(zz.lf.k.cells.length:Int)≤48:=by omega
   exact Int.ofNat_le.1 this) (by omega)).mono ?_))
  ·rintro r' w9⟨rfl,pv,Sz,he9,hl9,bg,AB⟩;refine⟨rfl,pv,Sz,he9,hl9,bg,fun b hb=>?_⟩;rcases AB b hb with h6|h6
   ·exact⟨(MJ b h6).1,(MJ b h6).2,.inl h6⟩
   ·exact⟨by omega,fun hm=>by have:=(l6.low b hm).2;omega,.inr h6⟩
  rintro r' bM⟨rfl,arV,me,bV,SA,Ab⟩;refine nM ((j+1:Nat):Int) ?_;refine au ?_;rw[mx];refine ay func140 rfl ⟨by simp[Nat.add_comm],done me ?_ ?_⟩
  ·refine(((ax.tr hS).bG.tr (aD.mono fun k hk=>.inl (inf k hk))).tr (aN.mono fun k hk=>.inl (inf k hk))).trans bV fun k hk=>?_;simp only[List.mem_cons,List.not_mem_nil,or_false]at hk;rcases hk with hk|hk
   ·rw[hk];rcases SA with h7|h7
    ·exact .inl (inf _ h7)
    ·exact .inr (by omega)
   ·exact .inl (by rw[dP,hk];simp)
  ·intro k hk;rcases Ab k hk with h6|h6|h6|h6
   ·exact .inl (by rw[dP,h6];simp)
   ·rcases h6 with h7|h7
    ·exact .inl (inf k h7)
    ·exact .inr (by omega)
   ·exact .inl (by rw[dP];simp[h6])
   ·exact .inr (by omega)
 have an9:eG (bB vs body) z'.lf.m=false:=by simpa using gQ
 rw[show eG (cN vs body 0++[bA]) z'.lf.m=false from an9];rw[if_neg gQ]at mx;have Fh:=l1.aA ax;have CY:=l2.aA ax;refine lB Fh.af ?_;by_cases kb:z'.lf.m.state=0
 rotate_left
 ·rw[if_neg kb]at mx;refine oC (CY.off kb) ?_;rintro r' w5⟨rfl,aE⟩;refine au ?_;rw[mx];refine ay func140 rfl ⟨by simp,done (LV.put Fh l3 CY (CY.aA aE) aE.bG fun k hk=>.inl hk) (ax.tr aE).bG fun k hk=>.inl (by rw[dP];exact hk)⟩
 rw[if_pos kb]at mx;refine oC (CY.step Ew (by omega) kb) ?_;rintro r' w5⟨rfl,AP,xm,aE,lr⟩;have Sy:=LV.put Fh l3 CY xm aE lr;have iz:=fe.one (nw:=d_) true;have kN:ae fp' w3 w5:=ax.bG.tr (aE.mono fun k hk=>.inl (inf k hk));refine nM ((j+1:Nat):Int) ?_;refine au ?_;refine bj ?_ (ih (n-(j+1)) [(0,.pointer (some ⟨y,0,none⟩)),(3,.pointer (some ⟨x1,0,none⟩)),(7,.int .i64 (n:Nat)),(8,.int .i64 ((j+1:Nat):Int))] w5 (by omega) ⟨j+1,_,_,by omega,rfl,rfl,Sy,iz,?_,aw.trans kN (fun k hm=>ju k hm),?_⟩)
 ·exact⟨rfl,rfl,rfl,rfl,trivial⟩
 ·rw[mx,show n-(j+1)=r by omega];simp only[Nat.add_assoc,Nat.add_comm 1 j];rfl
 ·intro k hk;simp only[List.mem_cons,List.mem_append]at hk;have pL:k∈fp'→k∈fp∨w2.heap.size≤k:=ju k;rcases hk with hk|hk|hk
  ·exact pL (by rw[dP,hk];simp)
  ·rcases lr k hk with h6|h6
   ·exact pL (inf k h6)
   ·exact .inr (by omega)
  ·exact pL (by rw[dP];simp[hk])
theorem ahM(s:Sp)(h:LV vs body inp B w y fp z)(hz:jH vs body inp z i)(hi:i≤300000)(cX:dq vs body=0)(bw:cu body≤1000)(fF:inp.length≤40)(hK:s.2.2.1<9223372036854775808):aC prog 101 [.pointer (some ⟨y,0,none⟩),.agg (jU s).toArray] w fun r w'=>r=.tuple #[.int .i64 ((pF d_ (bB vs body) inp s z).2:Nat),.int .i64 (jA s)]∧∃fp',LV vs body inp B w' y fp' (pF d_ (bB vs body) inp s z).1∧ae fp w w'∧∀k∈fp',k∈fp∨w.heap.size≤k:=by
 obtain⟨kd,N,K,mk⟩:=s;simp only at hK;refine aG 29 func101 ?_;refine au ?_;refine aj (bY (jU (kd,N,K,mk)) rfl ?_);intro w1 x1 cJ bt ah aM;refine au ?_;refine ai (.agg (jU (kd,N,K,mk)).toArray) (bF (jU (kd,N,K,mk)) rfl (aM.range (by rfl))) ?_;refine oC (afg (kd,N,K,mk) w1) ?_;rintro r w2⟨rfl,an⟩;have br:=ah.tr an;have aX:=an.af aM (by simp);have h2:=h.keep br (fun k hk=>by cases hk);have al6:=br.size;refine au ?_;by_cases hf:jA (kd,N,K,mk)=0
 rotate_left
 ·refine ye ?_;refine au ?_;unfold pF;rw[if_neg hf];exact nH func101 rfl ⟨rfl,fp,h2,br.bG,fun k hk=>.inl hk⟩
 refine aL ?_;refine lB aX ?_;have H7:pF d_ (bB vs body) inp (kd,N,K,mk) z=rC d_ (bB vs body) inp kd N.toNat (qd (kd,N,K,mk)) z:=by
  unfold pF;rw[if_pos hf]
 rw[H7,hf];have yh:(kd=1∨kd=2∨kd=3)∧(kd≠2→0≤N∧N≤3000)∧(kd=3→0≤K):=by
  unfold jA at hf;simp only at hf;split at hf
  ·omega
  ·split at hf
   ·omega
   ·refine⟨by omega,fun _=>by omega,fun _=>by omega⟩
 obtain⟨o2,hkc,hmc,Al,su⟩:=hz.lo cX bw fF;have late:∀{fp':List Nat},(∀k∈fp',k∈fp∨w2.heap.size≤k)→∀k∈fp',k∈fp∨w.heap.size≤k:=fun{fp'} h k hk=>by
  rcases h k hk with h6|h6
  ·exact .inl h6
  ·exact .inr (by omega)
 refine au ?_;by_cases h1:kd=1
 ·obtain⟨n,rfl⟩:∃n:Nat,N=(n:Int):=⟨N.toNat,by have:=(yh.2.1 (by omega)).1;omega⟩;have cD:=(yh.2.1 (by omega)).2;refine ye ?_;refine lB aX ?_;refine oC (aei n h2 hz hi cX bw fF (by omega)) ?_;rintro r w3⟨rfl,fp',h3,aw,ju⟩;refine au ?_;have e:rC d_ (bB vs body) inp kd ((n:Int)).toNat (qd (kd,(n:Int),K,mk)) z=oU d_ (bB vs body) inp n z:=by
   unfold rC;rw[if_neg (by omega),if_neg (by omega),Int.toNat_natCast]
  rw[e];exact nH func101 rfl ⟨rfl,fp',h3,br.bG.tr aw,late ju⟩
 refine aL ?_;refine au ?_;by_cases h3:kd=3
 ·obtain⟨n,rfl⟩:∃n:Nat,N=(n:Int):=⟨N.toNat,by have:=(yh.2.1 (by omega)).1;omega⟩;have cD:=(yh.2.1 (by omega)).2;refine ye ?_;refine au ?_;refine ai (.agg (jU (kd,(n:Int),K,mk)).toArray) (bF (jU (kd,(n:Int),K,mk)) rfl (aX.range (by rfl))) ?_;refine oC (adx (kp:=qd (kd,(n:Int),K,mk)) h2 hz hi cX bw fF (by omega) (yh.2.2 h3) hK rfl) ?_;rintro r w3⟨rfl,fp',EI,aw,ju⟩;refine au ?_;have e:rC d_ (bB vs body) inp kd ((n:Int)).toNat (qd (kd,(n:Int),K,mk)) z=oP d_ (bB vs body) inp (qd (kd,(n:Int),K,mk)) n z:=by
   unfold rC;rw[if_neg (by omega),if_pos h3,Int.toNat_natCast]
  rw[e];exact nH func101 rfl ⟨rfl,fp',EI,br.bG.tr aw,late ju⟩
 refine aL ?_;refine lB aX ?_;obtain⟨x,d,q,cv,iv,rd,fm,rfl,l1,l2,l3⟩:=h2;refine oC (Tl (A:=fun b=>b∈fm) (mm:=z.lf.m) (W:=z.W) (k:=z.lf.k) (p:=z.lf.p) (KW:=z.KW) (g:=z.gen) l1 rfl ((l2.D_ mk).mono ?_) (by omega) (by omega)) ?_
 ·rintro r w4⟨rfl,pv,qB,ax,nq⟩;exact⟨rfl,pv,qB,l2.2.1,l2.2.2,ax,fun b hb=>⟨fun e=>l3 (e▸nq b hb),(l2.lt b (nq b hb)).2.2,nq b hb⟩⟩
 rintro r w5⟨rfl,fp',h5,aE,SA,lr⟩;refine au ?_;have e:rC d_ (bB vs body) inp kd N.toNat (qd (kd,N,K,mk)) z=(Ea z,0):=by
  unfold rC;rw[if_pos (by omega)]
 rw[e];refine nH func101 rfl ⟨rfl,fp',h5,?_,?_⟩
 ·refine br.bG.tr (aE.mono fun k hk=>.inl ?_);simp only[List.mem_cons,List.not_mem_nil,or_false]at hk;rcases hk with hk|hk
  ·rw[hk];simp[SA]
  ·rw[hk];simp
 ·intro b hb;rcases lr b hb with h6|h6|h6|h6
  ·exact .inl (by simp[h6])
  ·exact .inl (by simp[h6])
  ·exact .inl (by simp[h6])
  ·exact .inr (by omega)
end
abbrev vz:Nat:=249
abbrev lY:Nat:=252
theorem ZQ:vz≠lY:=by decide
structure Mf(w w':World):Prop where
 size:w.heap.size≤w'.heap.size
 af:∀{c:Nat} {L:List Value} {e:TypeId},ak w c L e→e≠vz→e≠lY→ak w' c L e
theorem Mf.refl(w:World):Mf w w:=⟨Nat.le_refl _,fun h _ _=>h⟩
theorem Mf.tr{w w' cg:World}(h:Mf w w')(h':Mf w' cg):Mf w cg:=⟨Nat.le_trans h.size h'.size,fun hb h1 h2=>h'.af (h.af hb h1 h2) h1 h2⟩
theorem Mf.bG{w w':World}(h:ae [] w w'):Mf w w':=⟨h.size,fun hb _ _=>h.af hb (by simp)⟩
theorem Mf.of{w w':World}{fp:List Nat}(h:ae fp w w')(hf:∀k∈fp,∃L e,ak w k L e∧(e=vz∨e=lY)):Mf w w':=
 ⟨h.size,fun hb h1 h2=>h.af hb fun hm=>by
  obtain⟨L,e,iT,he⟩:=hf _ hm;rcases he with he|he
  ·exact ak.ne hb iT (fun h=>h1 (h.trans he)) rfl
  ·exact ak.ne hb iT (fun h=>h2 (h.trans he)) rfl⟩
structure Mk(w0 w:World)(b:Nat)(v:Value)(l:List Is)(vv bv:Value):Prop where
 kp:ae [] w0 w
 ge:w0.heap.size≤b
 bk:ak w b [v,vv,bv] vz
 row:fN lY w w0.heap.size v l
def Mt(w0 w:World)(b:Nat)(l:List Is)(vv bv:Value):Prop:=∃v,Mk w0 w b v l vv bv
section
variable{w0 w w1 w2:World}{b B:Nat}{v v' vv bv:Value}{l l':List Is}
theorem Wi(h:fN lY w B v l):∀k∈v.ownBlock.toList,∃X,ak w k X lY:=by
 intro k hk;rcases h.2 with⟨rfl,_⟩|⟨g,cap,cur,rfl,_,hg,_⟩
 ·simp[Value.ownBlock]at hk
 ·have:k=g:=by simpa[Value.ownBlock]using hk
  subst this;exact⟨cur,hg⟩
theorem XI(h:fN lY w B v l){X:List Value}(hb:ak w b X vz):∀k∈v.ownBlock.toList,k≠b:=by
 intro k hk;obtain⟨Y,hY⟩:=Wi h k hk;exact(ak.ne hb hY ZQ).symm
theorem Mk.aA(h:Mk w0 w b v l vv bv)(hk:ae [] w w1):Mk w0 w1 b v l vv bv:=⟨h.kp.tr hk,h.ge,hk.af h.bk (by simp),h.row.aA hk⟩
theorem Mt.aA(h:Mt w0 w b l vv bv)(hk:ae [] w w1):Mt w0 w1 b l vv bv:=let⟨v,h⟩:=h;⟨v,h.aA hk⟩
theorem Mt.kp(h:Mt w0 w b l vv bv):ae [] w0 w:=let⟨_,h⟩:=h;h.kp
theorem Mk.bkA(h:Mk w0 w b v l vv bv)(hk:ae v.ownBlock.toList w w1):ak w1 b [v,vv,bv] vz:=hk.af h.bk fun hm=>XI h.row h.bk b hm rfl
theorem Mk.app(h:Mk w0 w b v l vv bv)(hk:ae v.ownBlock.toList w w1)(bN:fN lY w1 w0.heap.size v' l')(an:ae [b] w1 w2)(hb:ak w2 b [v',vv,bv] vz):Mk w0 w2 b v' l' vv bv∧Mf w w2:=by
 have aM:=h.bkA hk;refine⟨⟨(h.kp.trans hk fun k hm=>.inr (h.row.own k hm).1).aO an h.ge,h.ge,hb,?_⟩,?_⟩
 ·exact Own.keep bN an fun k hv hm=>XI bN aM k (by simpa using hv) (List.mem_singleton.1 hm)
 ·refine Mf.tr (Mf.of hk fun k hm=>?_) (Mf.of an fun k hm=>⟨[v,vv,bv],vz,by rw[List.mem_singleton.1 hm];exact aM,.inl rfl⟩);obtain⟨X,hX⟩:=Wi h.row k hm;exact⟨X,lY,hX,.inr rfl⟩
end
theorem aeP(a n:Int):prog.built lY [(0,.int .i64 a),(3,.int .i64 n)]=some (iC (a,0,0,n)).toArray:=by kernel_rfl
theorem Dx(a:Int):prog.built lY [(0,.int .i64 a)]=some (iC (a,0,0,0)).toArray:=by kernel_rfl
theorem NM(a b:Int):prog.built lY [(0,.int .i64 a),(1,.int .i64 b)]=some (iC (a,b,0,0)).toArray:=by kernel_rfl
theorem af2(a b c:Int):prog.built lY [(0,.int .i64 a),(1,.int .i64 b),(2,.int .i64 c)]=some (iC (a,b,c,0)).toArray:=by kernel_rfl
theorem ajq:((prog.info? lY).bind (·.zero)).map (·.cells)=some (iC (0,0,0,0)).toArray:=by kernel_rfl
theorem ajr:dH prog lY 4=true:=by kernel_rfl
theorem JZ:dH prog 3 1=true:=by kernel_rfl
theorem ajs:dH prog 163 1=true:=by kernel_rfl
theorem ahA(x:Is):kE prog 163 1 [(0,.agg (iC x).toArray)]=some (lY,(iC x).toArray):=by
 obtain⟨a,b,c,d⟩:=x
 kernel_rfl
theorem akQ:wE prog 163 lY 4 32=true:=by decide+kernel
theorem ajt(x:Is):∀u∈iC x,u.oneCell'=true:=by
 intro u hu;simp only[iC,List.mem_cons,List.not_mem_nil,or_false]at hu;rcases hu with rfl|rfl|rfl|rfl<;>rfl
theorem GW{v:Value}(h:v.oneCell'=true):∀u∈[v],u.oneCell'=true:=by
 intro u hu;simp only[List.mem_cons,List.not_mem_nil,or_false]at hu;subst hu;exact h
theorem akR{w:World}{b e:Nat}{x:Is}(hb:ak w b (iC x) e):lC (fun c=>c=b) w (.slice (some ⟨b,0,none⟩) 1 1) [x]:=
 ⟨_,1,rfl,fun _=>⟨b,0,rfl,rfl,hb.range (by simp[kX,iC])⟩⟩
theorem af3(A R:List Value)(x y z:Value):b_ (A++x::y::R) (A.length+1) [z]=A++x::z::R:=by
 have e1:(A++x::y::R).take (A.length+1)=A++[x]:=by
  rw[List.take_append,List.take_of_length_le (by omega),Nat.add_sub_cancel_left];rfl
 have e2:(A++x::y::R).drop (A.length+1+1)=R:=by
  rw[List.drop_append,List.drop_of_length_le (by omega),show A.length+1+1-A.length=2 by omega];rfl
 unfold b_;rw[e1,show A.length+1+[z].length=A.length+1+1 from rfl,e2];simp
theorem XJ(p r:List Is)(x:Is):kX (p++x::r)=kX p++.int .i64 x.1::.int .i64 x.2.1::.int .i64 x.2.2.1::.int .i64 x.2.2.2::kX r:=by
 simp[kX,iC]
theorem aeQ{cur:List Value}{p r:List Is}{op a c n:Int}(m:Int)(h:cur.take ((p++(op,a,c,n)::r).length*4)=kX (p++(op,a,c,n)::r)):(b_ cur (0+p.length*4+1) [.int .i64 m]).take ((p++(op,a,c,n)::r).length*4)=kX (p++(op,m,c,n)::r):=by
 obtain⟨T,hT⟩:∃T,T=cur.drop ((p++(op,a,c,n)::r).length*4):=⟨_,rfl⟩;have hc:cur=kX (p++(op,a,c,n)::r)++T:=by rw[hT,←h,List.take_append_drop]
 have hp:0+p.length*4+1=(kX p).length+1:=by rw[FH];omega
 have hl:(p++(op,a,c,n)::r).length*4=(kX (p++(op,m,c,n)::r)).length:=by rw[FH];simp
 have e:b_ cur (0+p.length*4+1) [.int .i64 m]=kX (p++(op,m,c,n)::r)++T:=by
  rw[hc,hp,XJ,XJ];simp only[List.append_assoc,List.cons_append];exact af3 (kX p) _ _ _ _
 rw[e,hl,List.take_left'];rfl
structure HQ(vs:List aJ)(bd:List ST)(F:Nat→Prop)(w0:World)(vv bv:Value):Prop where
 pr:iN F w0 (.agg #[vv,bv]) vs bd
 hF:In F w0
 sz:ua vs
section
variable{w0 w:World}{b:Nat}{v vv bv:Value}{l:List Is}
theorem NN(h:Mk w0 w b v l vv bv):aC prog 204 [.pointer (some ⟨b,0,none⟩)] w fun r w'=>r=.int .i64 (l.length:Nat)∧w'=w:=by
 obtain⟨a,cap,rfl⟩:=h.row.form;refine aG 8 func204 ?_;refine lB h.bk ?_;refine au ?_;exact ay func204 rfl ⟨rfl,rfl⟩
theorem uQ(h:Mt w0 w b l vv bv)(x:Is)(hl:l.length≤900000):aC prog 171 [.pointer (some ⟨b,0,none⟩),.agg (iC x).toArray] w fun r w'=>r=.int .i64 (l.length:Nat)∧Mt w0 w' b (l++[x]) vv bv∧Mf w w':=by
 obtain⟨v,h⟩:=h;obtain⟨a,cap,rfl⟩:=h.row.form;refine aG 19 func171 ?_;refine au ?_;refine aj (bY (iC x) rfl ?_);intro w1 x1 cJ bt ah cm;have h1:=h.aA ah;refine oC (NN h1) ?_;rintro r L4⟨rfl,cC⟩;rw[cC];refine au ?_;refine bC (fun w'=>ae [] w1 w') [7,10] bE ?_;have hS:ae [] w1 w1.drew:=(ae.refl _ _).drew;generalize w1.drew=w2 at*;refine tk 0 ?_;refine tk 1 ?_;refine tk 2 ?_;refine tk 3 ?_;refine aI 4 (.slice a l.length cap) rfl (fun w9 aq=>aB rfl ((aq.af h1.bk (by simp)).cell rfl)) hS ?_;refine aI 5 (.agg (iC x).toArray) rfl (fun w9 aq=>bF (iC x) rfl ((aq.af cm (by simp)).range (by rfl))) hS ?_;refine a8 6 rfl (eE lY (iC x) rfl rfl (ahA x) ?_);intro w3 g hg cw aw aQ;refine⟨fun _=>hS.tr aw,?_⟩;have h3:=h1.aA (hS.tr aw);refine a8 7 rfl (pY l [x] rfl rfl rfl akQ h3.row (akR aQ) (by simp;omega) h3.kp.size ?_);intro v4 w4 wG ax;refine⟨fun h=>absurd (by simp) h,?_⟩;obtain⟨a4,c4,rfl⟩:=wG.form;refine tk 8 ?_;refine tk 9 ?_;refine a8 10 rfl (aH [.slice a4 (l++[x]).length c4] rfl ajs (h3.bkA ax) (by simp) (GW rfl) ?_);intro w5 iV aE cr;refine⟨fun h=>absurd (by simp) h,?_⟩;refine bm ?_;obtain⟨h5,xm⟩:=h3.app ax wG aE cr;refine au ?_;exact ay func171 rfl ⟨rfl,⟨_,h5⟩,(Mf.bG (ah.tr (hS.tr aw))).tr xm⟩
theorem af4{p r:List Is}{op a c n:Int}(h:Mt w0 w b (p++(op,a,c,n)::r) vv bv):aC prog 257 [.pointer (some ⟨b,0,none⟩),.int .i64 (p.length:Nat)] w fun r' w'=>r'=.tuple #[]∧Mt w0 w' b (p++(op,(((p++(op,a,c,n)::r).length:Nat):Int),c,n)::r) vv bv∧Mf w w':=by
 obtain⟨v,h⟩:=h;obtain⟨L,hL⟩:∃L,L=p++(op,a,c,n)::r:=⟨_,rfl⟩;have hlen:L.length=p.length+1+r.length:=by rw[hL];simp;omega
 rw[←hL]at h;rcases h.row.2 with⟨_,h0⟩|⟨g,cap,cur,rfl,hB,hb,hc,hl,ht⟩
 ·omega
 refine aG 13 func257 ?_;refine au ?_;refine bC (fun w'=>ae [] w w') [9] bE ?_;have hS:ae [] w w.drew:=(ae.refl _ _).drew;generalize w.drew=w2 at*;refine tk 0 ?_;refine tk 1 ?_;refine tk 2 ?_;refine aI 3 (.slice (some ⟨g,0,none⟩) L.length cap) rfl (fun w9 aq=>aB rfl ((aq.af h.bk (by simp)).cell rfl)) hS ?_;refine tk 4 ?_;refine tk 5 ?_;refine dC 6 (NN (h.aA hS)) ?_;rintro r' w2'⟨rfl,cC⟩;rw[cC];refine⟨fun _=>hS,?_⟩;refine bD 7 _ rfl (fun w=>bJ p.length rfl (by omega) w) ?_;refine tk 8 ?_;have aX:=hS.af hb (by simp);refine a8 9 rfl (aH [.int .i64 (L.length:Nat)] rfl JZ aX (by simp;omega) (GW rfl) ?_);intro w3 cw aw aQ;refine⟨fun h=>absurd (by simp) h,?_⟩;refine bm ?_;have h2:=h.aA hS;have HP:g≠b:=ak.ne hb h.bk ZQ.symm;refine au ?_;refine bK func257 rfl ⟨rfl,⟨.slice (some ⟨g,0,none⟩) L.length cap,h2.kp.aO aw hB,h.ge,aw.af h2.bk (by simpa using HP.symm),?_⟩,(Mf.bG hS).tr (Mf.of aw fun k hm=>⟨cur,lY,by rw[List.mem_singleton.1 hm];exact aX,.inr rfl⟩)⟩;have e:(p++(op,(((p++(op,a,c,n)::r).length:Nat):Int),c,n)::r).length=L.length:=by rw[hL];simp
 refine⟨FH _,.inr ⟨g,cap,_,by rw[e],hB,aQ,by rw[e];exact hc,by rw[Te (by simp;omega)];exact hl,?_⟩⟩;rw[e];rw[hL]at ht⊢;exact aeQ _ ht
theorem FO{vs:List aJ}{bd:List ST}{F:Nat→Prop}(C:HQ vs bd F w0 vv bv)(h:Mk w0 w b v l vv bv)(k:Int):aC prog 225 [.pointer (some ⟨b,0,none⟩),.int .i64 k] w fun r w'=>r=.int .i64 (cellOf vs k)∧ae [] w w':=by
 refine aG 11 func225 ?_;refine au ?_;refine ai (.agg #[vv,bv]) (bF [vv,bv] rfl (h.bk.range (by rfl))) ?_;refine oC (N9 (C.pr.keep h.kp C.hF.stays) (C.hF.keep h.kp) C.sz k) ?_;rintro r w1⟨rfl,ah⟩;refine au ?_;exact ay func225 rfl ⟨rfl,ah⟩
theorem Vj{vs:List aJ}{bd:List ST}{F:Nat→Prop}(C:HQ vs bd F w0 vv bv)(h:Mk w0 w b v l vv bv)(k:Int)(h0:0≤k)(hk:k.toNat<vs.length):aC prog 226 [.pointer (some ⟨b,0,none⟩),.int .i64 k] w fun r w'=>r=.int .i64 (jk vs k)∧w'=w:=by
 obtain⟨k,rfl⟩:∃k':Nat,k=(k':Nat):=⟨k.toNat,by omega⟩;simp only[Int.toNat_natCast]at hk;have xn:vs[k]?=some vs[k]:=List.getElem?_eq_getElem hk;obtain⟨xo,jf,pO,hv,_⟩:=C.pr;cases pO;obtain⟨vb,vq,vc,rfl,CA,xp⟩:=hv.at xn;have xq:jk vs ((k:Nat):Int)=vs[k].2:=by
  unfold jk;rw[Int.toNat_natCast,List.getD_eq_getElem?_getD,xn];rfl
 rw[xq];refine aG 14 func226 ?_;refine lB h.bk ?_;refine au ?_;refine ai _ (bJ k rfl hk w) ?_;refine au ?_;refine ai _ (aB rfl ((ft xp h.kp (C.hF _ CA) (by simp)) 1 (.int .i64 vs[k].2) rfl)) ?_;refine au ?_;exact ay func226 rfl ⟨rfl,rfl⟩
end
theorem amT:141≠vz:=by decide
theorem amU:141≠lY:=by decide
theorem aju:((prog.info? 141).bind (·.zero)).map (·.cells)=some [Value.int .i64 0,.int .i64 0,.int .i64 0,.slice none 0 0].toArray:=by kernel_rfl
theorem ajv:dH prog 141 4=true:=by kernel_rfl
def ExM(vs:List aJ)(F:Nat→Prop)(w0:World)(b:Nat)(vv bv:Value)(s:Nat):Prop:=∀(t:ET),fO t<s→CB vs.length t→∀{w:World} {cs:List Value} {L:List Is},dY F w0 cs t→Mt w0 w b L vv bv→L.length+fO t≤900000→
  aC prog 224 [.pointer (some ⟨b,0,none⟩),.agg cs.toArray] w fun r w'=>r=.tuple #[]∧Mt w0 w' b (L++ey vs t) vv bv∧Mf w w'
theorem Vk{vs:List aJ}{bd:List ST}{F:Nat→Prop}{w0:World}{vv bv:Value}(C:HQ vs bd F w0 vv bv){b:Nat}:∀(s:Nat),ExM vs F w0 b vv bv s:=by
 intro s;induction s with
 |zero=>intro t ht;omega
 | succ s vA=>
  intro t ht eT w cs L hX h hl;obtain⟨op,v,n,l⟩:=t;obtain⟨lv,rfl,hE⟩:=hX.inv;obtain⟨a,cap,rfl⟩:=hE.form;obtain⟨Am,L5⟩:=eT;simp only[fO]at ht hl;have hlen:=F4 l;have fF:=Dy vs l;refine aG 49 func224 ?_;refine au ?_;refine aj (bY [.int .i64 op,.int .i64 v,.int .i64 n,.slice a l.length cap] rfl ?_);intro w1 x1 cJ bt ah cm;have h1:=h.aA ah;refine aP ?_;refine bT ?_;refine bT ?_;refine aP ?_;refine cH ?_;refine aP ?_;refine lB cm ?_;refine au ?_;refine cP (fun m σ w'=>∃i:Nat,i≤l.length∧m=l.length-i∧σ=[(0,.pointer (some ⟨b,0,none⟩)),(3,.pointer (some ⟨x1,0,none⟩)),(8,.slice a l.length cap),(9,.int .i64 (l.length:Nat)),(10,.int .i64 (i:Nat))]∧Mt w0 w' b (L++gr vs (l.take i)) vv bv∧Mf w1 w') l.length _ ?_ ⟨0,by omega,by omega,rfl,by simpa[gr]using h1,Mf.refl _⟩ ?_
  ·exact⟨rfl,rfl,rfl,rfl,rfl,trivial⟩
  rintro m σ w6 ih⟨i,hi,rfl,rfl,h6,An⟩;refine au ?_;by_cases az:i<l.length
  ·refine ye ?_;have j_:l[i]?=some l[i]:=List.getElem?_eq_getElem az;obtain⟨b1,q1,c1,ci,tC,og,fh,eO⟩:=hE.at j_;cases tC;have GX:=Jr j_;have K7:=Js l (i+1);have r_:=Dy vs (l.take i);have xr:=Uy vs j_;refine au ?_;refine ai _ (bJ i rfl az w6) ?_;refine ai (.agg ci.toArray) (h_ ci hT rfl rfl (by rw[eO.length];rfl) (ft fh h6.kp (C.hF _ og) (by simp))) ?_;refine aj (bO _ rfl aju ?_);intro w7 x2 gi jr aN eC;refine aj (aH ci rfl (by rw[eO.length];exact ajv) eC (by rw[eO.length];simp) eO.one ?_);intro w8 jP aS cB;rw[bs (by rw[eO.length];rfl)]at cB;have eP:ae [] w6 w8:=aN.aO aS (by omega);refine au ?_;refine ai (.agg ci.toArray) (h_ ci hT rfl rfl (by rw[eO.length];rfl) (cB.range (by simp))) ?_;refine oC (vA l[i] (by omega) (OB L5 j_) eO (h6.aA eP) (by simp only[List.length_append];omega)) ?_;rintro r w9⟨rfl,h9,RC⟩;refine nM ((i+1:Nat):Int) ?_;refine au ?_;refine bj ?_ (ih (l.length-(i+1)) [(0,.pointer (some ⟨b,0,none⟩)),(3,.pointer (some ⟨x1,0,none⟩)),(8,.slice (some ⟨b1,q1,none⟩) l.length cap),(9,.int .i64 (l.length:Nat)),(10,.int .i64 ((i+1:Nat):Int))] w9 (by omega) ⟨i+1,by omega,rfl,rfl,?_,(An.tr (Mf.bG eP)).tr RC⟩)
   ·exact⟨rfl,rfl,rfl,rfl,rfl,trivial⟩
   ·rw[xr,←List.append_assoc];exact h9
  ·refine aL ?_;rw[List.take_of_length_le (by omega)]at h6;have yS:=An.af cm amT amU;refine lB yS ?_;refine lB yS ?_;refine ai _ (bL _ rfl rfl (aeP op n) w6) ?_;refine aj (bO _ rfl ajq ?_);intro w7 x7 sd jr aN eC;refine aj (aH (iC (op,0,0,n)) rfl ajr eC (by simp[iC]) (ajt _) ?_);intro w8 jP aS cB;rw[bs (by rfl)]at cB;have eP:ae [] w6 w8:=aN.aO aS (by omega);have rn:=eP.af yS (by simp);obtain⟨mv,h8⟩:=h6.aA eP;refine aP ?_;refine bT ?_;refine fx (fun σ' w'=>ak w' x7 (iC (op,if op=2∨op=3 then cellOf vs v else 0,if op=3 then jk vs v else 0,n)) lY∧ae [] w6 w'∧Sub [(0,.pointer (some ⟨b,0,none⟩)),(6,.pointer (some ⟨x7,0,none⟩))] σ') ?_ ?_
   rotate_left
   ·intro fin;refine lB rn ?_;refine au ?_;by_cases h2:op=2
    ·rw[if_pos (.inl h2),if_neg (by omega)]at fin;refine ye ?_;refine aP ?_;refine cH ?_;refine aP ?_;refine lB rn ?_;refine oC (FO C h8 v) ?_;rintro r w9⟨rfl,bg⟩;refine au ?_;refine aj (aH [.int .i64 (cellOf vs v)] rfl JZ (bg.af cB (by simp)) (by simp[iC]) (GW rfl) ?_);intro bM zY bV ld;refine aP ?_;exact fin _ _ ⟨ld,(eP.tr bg).aO bV (by omega),rfl,rfl,trivial⟩
    ·refine aL ?_;refine au ?_;by_cases h3:op=3
     ·obtain⟨kY,du⟩:=Am (.inr h3);rw[if_pos (.inr h3),if_pos h3]at fin;refine ye ?_;refine aP ?_;refine bC (fun w'=>ae [] w8 w') [9,11] bE ?_;have hS:ae [] w8 w8.drew:=(ae.refl _ _).drew;generalize w8.drew=w9 at*;refine tk 0 ?_;refine tk 1 ?_;refine aI 2 (.int .i64 v) rfl (fun w9 aq=>aB rfl ((aq.af rn (by simp)).cell rfl)) hS ?_;refine tk 4 ?_;refine tk 5 ?_;refine aI 6 (.int .i64 v) rfl (fun w9 aq=>aB rfl ((aq.af rn (by simp)).cell rfl)) hS ?_;refine dC 3 (FO C (h8.aA hS) v) ?_;rintro r bM⟨rfl,bV⟩;have GY:=hS.tr bV;refine⟨fun _=>GY,?_⟩;refine tk 8 ?_;refine dC 7 (Vj C (h8.aA GY) v kY du) ?_;rintro r ary⟨rfl,cC⟩;rw[cC];refine⟨fun _=>GY,?_⟩;refine a8 9 rfl (aH [.int .i64 (cellOf vs v)] rfl JZ (GY.af cB (by simp)) (by simp[iC]) (GW rfl) ?_);intro dB u4 b8 ue;refine⟨fun h=>absurd (by simp) h,?_⟩;refine tk 10 ?_;refine a8 11 rfl (aH [.int .i64 (jk vs v)] rfl JZ ue (by simp[iC,b_]) (GW rfl) ?_);intro fj u6 di u0;refine⟨fun h=>absurd (by simp) h,?_⟩;refine bm ?_;refine aP ?_;exact fin _ _ ⟨u0,((eP.tr GY).aO b8 (by omega)).aO di (by omega),rfl,rfl,trivial⟩
     ·refine aL ?_;rw[if_neg (by omega),if_neg h3]at fin;refine aP ?_;exact fin _ _ ⟨cB,eP,rfl,rfl,trivial⟩
   clear cB aS jP h8 rn eP;rintro σ' bM⟨ld,wH,bH⟩;refine bj bH ?_;obtain⟨X,ER⟩:∃X:Is,X=(op,if op=2∨op=3 then cellOf vs v else 0,if op=3 then jk vs v else 0,n):=⟨_,rfl⟩;rw[←ER]at ld;refine bC (fun w'=>ae [] bM w') [4] bE ?_;have hS:ae [] bM bM.drew:=(ae.refl _ _).drew;generalize bM.drew=dB at*;refine tk 0 ?_;refine tk 1 ?_;refine tk 2 ?_;refine aI 3 (.agg (iC X).toArray) rfl (fun w9 aq=>bF (iC X) rfl ((aq.af ld (by simp)).range (by rfl))) hS ?_;refine dC 4 (uQ (h6.aA (wH.tr hS)) X (by simp only[List.length_append];omega)) ?_;rintro r fj⟨rfl,sg,Ej⟩;refine⟨fun h=>absurd (by simp) h,?_⟩;refine bm ?_;refine au ?_;refine bK func224 rfl ⟨rfl,?_,((Mf.bG ah).tr An).tr ((Mf.bG (wH.tr hS)).tr Ej)⟩;simp only[ey];rw[←ER,←List.append_assoc];exact sg
theorem ZR:143≠vz:=by decide
theorem ZS:143≠lY:=by decide
theorem ajw:((prog.info? 143).bind (·.zero)).map (·.cells)=some KE.toArray:=by kernel_rfl
theorem ajx:dH prog 143 12=true:=by kernel_rfl
theorem YE{l:List Value}(h:l.length=4):∃a b c d,l=[a,b,c,d]:=by
 match l,h with
 |[a,b,c,d],_=>exact⟨a,b,c,d,rfl⟩
def HR(i0:Nat)(L X:List Is):List Is:=L++(13,((L.length+1+X.length+1:Nat):Int),0,0)::(X++[(14,((i0:Nat):Int),0,0)])
def HS(L X Y:List Is):List Is:=L++(13,((L.length+1+X.length+1:Nat):Int),0,0)::(X++(14,((L.length+1+X.length+1+Y.length:Nat):Int),0,0)::Y)
section
variable{w0 w:World}{b:Nat}{vv bv:Value}
theorem O6{l l' p r:List Is}{op a c n:Int}(k:Nat)(h:Mt w0 w b l vv bv)(hk:k=p.length)(hl:l=p++(op,a,c,n)::r)(vr:l'=p++(op,((l.length:Nat):Int),c,n)::r):aC prog 257 [.pointer (some ⟨b,0,none⟩),.int .i64 (k:Nat)] w fun r' w'=>r'=.tuple #[]∧Mt w0 w' b l' vv bv∧Mf w w':=by
 subst hk hl vr;exact af4 h
theorem alE{l l':List Is}(k:Nat)(h:Mt w0 w b l vv bv)(x:Is)(hl:l.length≤900000)(hk:k=l.length)(vr:l'=l++[x]):aC prog 171 [.pointer (some ⟨b,0,none⟩),.agg (iC x).toArray] w fun r w'=>r=.int .i64 (k:Nat)∧Mt w0 w' b l' vv bv∧Mf w w':=by
 subst hk vr;exact uQ h x hl
end
def HT(vs:List aJ)(F:Nat→Prop)(w0:World)(b:Nat)(vv bv:Value)(s:Nat):Prop:=∀(t:ST),ll t<s→HU vs.length t→∀{w:World} {cs:List Value} {L:List Is},iO F w0 cs t→Mt w0 w b L vv bv→L.length+2*ll t≤900000→
  aC prog 203 [.pointer (some ⟨b,0,none⟩),.agg cs.toArray] w fun r w'=>r=.tuple #[]∧Mt w0 w' b (L++fS vs t L.length) vv bv∧Mf w w'
section
variable{vs:List aJ}{bd:List ST}{F:Nat→Prop}{w0:World}{vv bv:Value}{b s:Nat}
theorem aeR(hF:In F w0)(aZ:HT vs F w0 b vv bv s)(l:List ST)(lZ:cu l<s)(eT:sW vs.length l){w:World}{x:Value}{L:List Is}(hE:eM F w0 x l)(h:Mt w0 w b L vv bv)(hl:L.length+2*cu l≤900000):aC prog 170 [.pointer (some ⟨b,0,none⟩),x] w fun r w'=>r=.tuple #[]∧Mt w0 w' b (L++cN vs l L.length) vv bv∧Mf w w':=by
 obtain⟨a,cap,rfl⟩:=hE.form;have hlen:=DI l;refine aG 16 func170 ?_;refine au ?_;refine cP (fun m σ w'=>∃i:Nat,i≤l.length∧m=l.length-i∧σ=[(0,.pointer (some ⟨b,0,none⟩)),(6,.slice a l.length cap),(7,.int .i64 (l.length:Nat)),(8,.int .i64 (i:Nat))]∧Mt w0 w' b (L++cN vs (l.take i) L.length) vv bv∧Mf w w') l.length _ ?_ ⟨0,by omega,by omega,rfl,by simpa[cN]using h,Mf.refl _⟩ ?_
 ·exact⟨rfl,rfl,rfl,rfl,trivial⟩
 rintro m σ w6 ih⟨i,hi,rfl,rfl,h6,An⟩;refine au ?_;by_cases az:i<l.length
 ·refine ye ?_;have j_:l[i]?=some l[i]:=List.getElem?_eq_getElem az;obtain⟨b1,q1,c1,ci,tC,og,fh,eO⟩:=hE.at j_;cases tC;have GX:=NO j_;have K7:=NP l (i+1);have r_:=sC vs (l.take i) L.length;have xr:=Uz vs j_ L.length;refine au ?_;refine ai _ (bJ i rfl az w6) ?_;refine ai (.agg ci.toArray) (h_ ci hT rfl rfl (by rw[eO.length];rfl) (ft fh h6.kp (hF _ og) (by simp))) ?_;refine aj (bO _ rfl ajw ?_);intro w7 x2 gi jr aN eC;refine aj (aH ci rfl (by rw[eO.length];exact ajx) eC (by rw[eO.length];simp[KE]) eO.one ?_);intro w8 jP aS cB;rw[bs (by rw[eO.length];rfl)]at cB;have eP:ae [] w6 w8:=aN.aO aS (by omega);refine au ?_;refine ai (.agg ci.toArray) (h_ ci hT rfl rfl (by rw[eO.length];rfl) (cB.range (by simp))) ?_;refine oC (aZ l[i] (by omega) (OC eT j_) eO (h6.aA eP) (by simp only[List.length_append];omega)) ?_;rintro r w9⟨rfl,h9,RC⟩;refine nM ((i+1:Nat):Int) ?_;refine au ?_;refine bj ?_ (ih (l.length-(i+1)) [(0,.pointer (some ⟨b,0,none⟩)),(6,.slice (some ⟨b1,q1,none⟩) l.length cap),(7,.int .i64 (l.length:Nat)),(8,.int .i64 ((i+1:Nat):Int))] w9 (by omega) ⟨i+1,by omega,rfl,rfl,?_,(An.tr (Mf.bG eP)).tr RC⟩)
  ·exact⟨rfl,rfl,rfl,rfl,trivial⟩
  ·rw[xr,←List.append_assoc];rw[List.length_append]at h9;exact h9
 ·refine aL ?_;rw[List.take_of_length_le (by omega)]at h6;refine au ?_;exact bK func170 rfl ⟨rfl,h6,An⟩
theorem J0(hF:In F w0)(aZ:HT vs F w0 b vv bv s)(l:List ST)(lZ:cu l<s)(eT:sW vs.length l){w:World}{x:Value}{L L':List Is}(i0:Nat)(hE:eM F w0 x l)(h:Mt w0 w b L vv bv)(hl:L.length+2*cu l≤900000)(hi:i0=L.length)(mB:L'=L++cN vs l i0):aC prog 170 [.pointer (some ⟨b,0,none⟩),x] w fun r w'=>r=.tuple #[]∧Mt w0 w' b L' vv bv∧Mf w w':=by
 subst hi mB;exact aeR hF aZ l lZ eT hE h hl
theorem af5(hF:In F w0)(aZ:HT vs F w0 b vv bv s)(l:List ST)(lZ:cu l<s)(eT:sW vs.length l)(i0:Nat){w:World}{x:Value}{L:List Is}(hE:eM F w0 x l)(h:Mt w0 w b L vv bv)(hl:L.length+2*cu l+2≤900000):aC prog 227 [.pointer (some ⟨b,0,none⟩),.int .i64 (i0:Nat),x] w fun r w'=>r=.tuple #[]∧Mt w0 w' b (HR i0 L (cN vs l (L.length+1))) vv bv∧Mf w w':=by
 have HV:=sC vs l (L.length+1);obtain⟨X,hX⟩:∃X,X=cN vs l (L.length+1):=⟨_,rfl⟩;rw[←hX]at HV⊢;refine aG 26 func227 ?_;refine au ?_;refine ai _ (bL _ rfl rfl (Dx 13) w) ?_;refine oC (uQ h (13,0,0,0) (by omega)) ?_;rintro r w1⟨rfl,h1,gx⟩;refine oC (J0 hF aZ l lZ eT (L':=L++(13,0,0,0)::X) (L.length+1) hE h1 (by simp;omega) (by simp) (by rw[hX];simp)) ?_;rintro r w2⟨rfl,h2,mE⟩;refine au ?_;refine ai _ (bL _ rfl rfl (NM 14 ((i0:Nat):Int)) w2) ?_;refine oC (uQ h2 (14,((i0:Nat):Int),0,0) (by simp;omega)) ?_;rintro r w3⟨rfl,h3,Ao⟩;refine oC (O6 (op:=13) (a:=0) (c:=0) (n:=0) (l':=HR i0 L X) (p:=L) (r:=X++[(14,((i0:Nat):Int),0,0)]) L.length h3 rfl (by simp) (by simp[HR];omega)) ?_;rintro r w4⟨rfl,h4,qu⟩;refine au ?_;exact bK func227 rfl ⟨rfl,h4,((gx.tr mE).tr Ao).tr qu⟩
theorem adZ(hF:In F w0)(aZ:HT vs F w0 b vv bv s)(l lo:List ST)(lZ:cu l+cu lo<s)(eT:sW vs.length l)(m_:sW vs.length lo){w:World}{x y:Value}{L:List Is}(hE:eM F w0 x l)(hO:eM F w0 y lo)(h:Mt w0 w b L vv bv)(hl:L.length+2*cu l+2*cu lo+2≤900000):aC prog 228 [.pointer (some ⟨b,0,none⟩),x,y] w fun r w'=>r=.tuple #[]∧Mt w0 w' b (HS L (cN vs l (L.length+1)) (cN vs lo (L.length+1+(cN vs l (L.length+1)).length+1))) vv bv∧Mf w w':=by
 have HV:=sC vs l (L.length+1);obtain⟨X,hX⟩:∃X,X=cN vs l (L.length+1):=⟨_,rfl⟩;rw[←hX]at HV⊢;have RE:=sC vs lo (L.length+1+X.length+1);obtain⟨Y,hY⟩:∃Y,Y=cN vs lo (L.length+1+X.length+1):=⟨_,rfl⟩;rw[←hY]at RE⊢;refine aG 34 func228 ?_;refine au ?_;refine ai _ (bL _ rfl rfl (Dx 13) w) ?_;refine oC (uQ h (13,0,0,0) (by omega)) ?_;rintro r w1⟨rfl,h1,gx⟩;refine oC (J0 hF aZ l (by omega) eT (L':=L++(13,0,0,0)::X) (L.length+1) hE h1 (by simp;omega) (by simp) (by rw[hX];simp)) ?_;rintro r w2⟨rfl,h2,mE⟩;refine au ?_;refine ai _ (bL _ rfl rfl (Dx 14) w2) ?_;refine oC (alE (l':=L++(13,0,0,0)::(X++[(14,0,0,0)])) (L.length+1+X.length) h2 (14,0,0,0) (by simp;omega) (by simp;omega) (by simp)) ?_;rintro r w3⟨rfl,h3,Ao⟩;refine oC (O6 (op:=13) (a:=0) (c:=0) (n:=0) (l':=L++(13,((L.length+1+X.length+1:Nat):Int),0,0)::(X++[(14,0,0,0)])) (p:=L) (r:=X++[(14,0,0,0)]) L.length h3 rfl rfl (by simp;omega)) ?_;rintro r w4⟨rfl,h4,qu⟩;refine oC (J0 hF aZ lo (by omega) m_ (L':=(L++(13,((L.length+1+X.length+1:Nat):Int),0,0)::X)++(14,0,0,0)::Y) (L.length+1+X.length+1) hO h4 (by simp;omega) (by simp;omega) (by rw[hY];simp)) ?_;rintro r w5⟨rfl,h5,oZ⟩;refine oC (O6 (op:=14) (a:=0) (c:=0) (n:=0) (l':=HS L X Y) (p:=L++(13,((L.length+1+X.length+1:Nat):Int),0,0)::X) (r:=Y) (L.length+1+X.length) h5 (by simp;omega) rfl (by simp[HS];omega)) ?_;rintro r w6⟨rfl,h6,An⟩;refine au ?_;exact bK func228 rfl ⟨rfl,h6,((((gx.tr mE).tr Ao).tr qu).tr oZ).tr An⟩
end
theorem af6{vs:List aJ}{bd:List ST}{F:Nat→Prop}{w0:World}{vv bv:Value}(C:HQ vs bd F w0 vv bv){b:Nat}:∀(s:Nat),HT vs F w0 b vv bv s:=by
 intro s;induction s with
 |zero=>intro t ht;omega
 | succ s vA=>
  intro t ht eT w cs L hX h hl;obtain⟨op,v,e,f,lb,lo⟩:=t;obtain⟨ce,cf,jf,ov,rfl,he,hf,hb,ho⟩:=hX.inv;obtain⟨e0,e1,e2,e3,rfl⟩:=YE he.length;obtain⟨f0,f1,f2,f3,rfl⟩:=YE hf.length;obtain⟨ba,bc,rfl⟩:=hb.form;obtain⟨oa,oc,rfl⟩:=ho.form;obtain⟨l8,gT,yT,oh,lp,pP,ux⟩:=eT;simp only[ll]at ht hl;have HW:=O7 vs op e;obtain⟨E,kH⟩:∃E,eI vs op e=E:=⟨_,rfl⟩;rw[kH]at HW;refine aG 100 func203 ?_;refine au ?_;refine aj (bY [.int .i64 op,.int .i64 v,e0,e1,e2,e3,f0,f1,f2,f3,.slice ba lb.length bc,.slice oa lo.length oc] rfl ?_);intro w1 x1 cJ bt ah cm;obtain⟨mv1,h1⟩:=h.aA ah;refine oC (NN h1) ?_;rintro r L4⟨rfl,cC⟩;rw[cC];refine aP ?_;refine bT ?_;refine fx (fun σ' w'=>Mt w0 w' b (L++E) vv bv∧Mf w1 w'∧Sub [(0,.pointer (some ⟨b,0,none⟩)),(3,.pointer (some ⟨x1,0,none⟩)),(4,.int .i64 (L.length:Nat))] σ') ?_ ?_
  rotate_left
  ·intro fin;refine lB cm ?_;obtain⟨qe,yU⟩:∃q,q=dw op:=⟨_,rfl⟩;refine oC (Gf op w1) ?_;rintro r w3⟨hr,cC⟩;unfold B4 at hr;rw[←yU]at hr;subst hr;rw[cC];unfold eI at kH;rw[←yU]at kH;cases qe with
   |false=>
    refine aP ?_;refine bT ?_;refine cH ?_;refine aP ?_;have RF:E=[]:=by rw[←kH];rfl
    exact fin _ _ ⟨by rw[RF,List.append_nil];exact⟨_,h1⟩,Mf.refl _,rfl,rfl,rfl,trivial⟩
   |true=>
    refine au ?_;refine ai (.agg #[e0,e1,e2,e3]) (bF [e0,e1,e2,e3] rfl (cm.range rfl)) ?_;refine oC (Vk C (fO e+1) e (by omega) (oh yU.symm) he (⟨_,h1⟩:Mt w0 w1 b L vv bv) (by omega)) ?_;rintro r w4⟨rfl,h4,qu⟩;refine aP ?_;have RG:E=ey vs e:=by rw[←kH];rfl
    exact fin _ _ ⟨by rw[RG];exact h4,qu,rfl,rfl,rfl,trivial⟩
  rintro σ' w4⟨⟨mv,h4⟩,qu,bH⟩;refine bj bH ?_;clear bH;have fk:=qu.af cm ZR ZS;have B5:Mf w w4:=(Mf.bG ah).tr qu;refine lB fk ?_;refine au ?_;by_cases amV:op=1
  ·subst amV;refine ye ?_;refine au ?_;refine bC (fun w'=>ae [] w4 w') [8] bE ?_;have hS:ae [] w4 w4.drew:=(ae.refl _ _).drew;generalize w4.drew=w5 at*;refine tk 0 ?_;refine tk 1 ?_;refine tk 2 ?_;refine tk 3 ?_;refine tk 4 ?_;refine aI 5 (.int .i64 v) rfl (fun w9 aq=>aB rfl ((aq.af fk (by simp)).cell rfl)) hS ?_;refine dC 6 (FO C (h4.aA hS) v) ?_;rintro r w6⟨rfl,aD⟩;have iU:=hS.tr aD;refine⟨fun _=>iU,?_⟩;refine bD 7 _ rfl (fun w=>bL _ rfl rfl (NM 9 (cellOf vs v)) w) ?_;refine dC 8 (uQ (⟨mv,h4.aA iU⟩:Mt w0 w6 b (L++E) vv bv) (9,cellOf vs v,0,0) (by simp only[List.length_append];omega)) ?_;rintro r w7⟨rfl,h7,Ap⟩;refine⟨fun h=>absurd (by simp) h,?_⟩;refine bm ?_;refine au ?_;refine bK func203 rfl ⟨rfl,?_,(B5.tr (Mf.bG iU)).tr Ap⟩;simpa[fS,jB,fI,cY,kH]using h7
  refine aL ?_;refine au ?_;by_cases amW:op=2
  ·subst amW;refine ye ?_;obtain⟨kY,du⟩:=yT rfl;refine au ?_;refine ai (.agg #[f0,f1,f2,f3]) (bF [f0,f1,f2,f3] rfl (fk.range rfl)) ?_;refine oC (Vk C (fO f+1) f (by omega) (lp rfl) hf (⟨mv,h4⟩:Mt w0 w4 b (L++E) vv bv) (by simp only[List.length_append];omega)) ?_;rintro r w5⟨rfl,⟨mv5,h5⟩,oZ⟩;have jg:=oZ.af fk ZR ZS;have arz:=DJ vs f;refine au ?_;refine bC (fun w'=>ae [] w5 w') [12] bE ?_;have hS:ae [] w5 w5.drew:=(ae.refl _ _).drew;generalize w5.drew=w6 at*;refine tk 0 ?_;refine tk 1 ?_;refine tk 2 ?_;refine tk 3 ?_;refine tk 4 ?_;refine aI 5 (.int .i64 v) rfl (fun w9 aq=>aB rfl ((aq.af jg (by simp)).cell rfl)) hS ?_;refine tk 7 ?_;refine tk 8 ?_;refine aI 9 (.int .i64 v) rfl (fun w9 aq=>aB rfl ((aq.af jg (by simp)).cell rfl)) hS ?_;refine dC 6 (FO C (h5.aA hS) v) ?_;rintro r w7⟨rfl,aN⟩;have uy:=hS.tr aN;refine⟨fun _=>uy,?_⟩;refine dC 10 (Vj C (h5.aA uy) v kY du) ?_;rintro r w7'⟨rfl,cC⟩;rw[cC];refine⟨fun _=>uy,?_⟩;refine bD 11 _ rfl (fun w=>bL _ rfl rfl (af2 10 (cellOf vs v) (jk vs v)) w) ?_;refine dC 12 (uQ (⟨mv5,h5.aA uy⟩:Mt w0 w7 b (L++E++ey vs f) vv bv) (10,cellOf vs v,jk vs v,0) (by simp only[List.length_append];omega)) ?_;rintro r w8⟨rfl,h8,ho8⟩;refine⟨fun h=>absurd (by simp) h,?_⟩;refine bm ?_;refine au ?_;refine bK func203 rfl ⟨rfl,?_,((B5.tr oZ).tr (Mf.bG uy)).tr ho8⟩;simpa[fS,jB,fI,cY,kH]using h8
  refine aL ?_;refine au ?_;by_cases amX:op=3
  ·subst amX;refine ye ?_;refine au ?_;refine ai _ (bL _ rfl rfl (Dx 11) w4) ?_;refine oC (uQ (⟨mv,h4⟩:Mt w0 w4 b (L++E) vv bv) (11,0,0,0) (by simp only[List.length_append];omega)) ?_;rintro r w5⟨rfl,h5,oZ⟩;refine au ?_;refine bK func203 rfl ⟨rfl,?_,B5.tr oZ⟩;simpa[fS,jB,fI,cY,kH]using h5
  refine aL ?_;refine au ?_;by_cases amY:op=4
  ·subst amY;refine ye ?_;refine au ?_;refine bC (fun w'=>ae [] w4 w') [8] bE ?_;have hS:ae [] w4 w4.drew:=(ae.refl _ _).drew;generalize w4.drew=w5 at*;refine tk 0 ?_;refine tk 1 ?_;refine tk 2 ?_;refine tk 3 ?_;refine tk 4 ?_;refine aI 5 (.int .i64 v) rfl (fun w9 aq=>aB rfl ((aq.af fk (by simp)).cell rfl)) hS ?_;refine dC 6 (FO C (h4.aA hS) v) ?_;rintro r w6⟨rfl,aD⟩;have iU:=hS.tr aD;refine⟨fun _=>iU,?_⟩;refine bD 7 _ rfl (fun w=>bL _ rfl rfl (NM 12 (cellOf vs v)) w) ?_;refine dC 8 (uQ (⟨mv,h4.aA iU⟩:Mt w0 w6 b (L++E) vv bv) (12,cellOf vs v,0,0) (by simp only[List.length_append];omega)) ?_;rintro r w7⟨rfl,h7,Ap⟩;refine⟨fun h=>absurd (by simp) h,?_⟩;refine bm ?_;refine au ?_;refine bK func203 rfl ⟨rfl,?_,(B5.tr (Mf.bG iU)).tr Ap⟩;simpa[fS,jB,fI,cY,kH]using h7
  refine aL ?_;refine au ?_;by_cases amZ:op=5
  ·subst amZ;refine ye ?_;refine lB fk ?_;refine oC (af5 C.hF vA lb (by omega) pP L.length hb (⟨mv,h4⟩:Mt w0 w4 b (L++E) vv bv) (by simp only[List.length_append];omega)) ?_;rintro r w5⟨rfl,h5,oZ⟩;refine au ?_;refine bK func203 rfl ⟨rfl,?_,B5.tr oZ⟩;have e9:L++fS vs (.mk 5 v e f lb lo) L.length=HR L.length (L++E) (cN vs lb ((L++E).length+1)):=by
    rw[fS,if_pos rfl,kH,List.length_append];simp[qa,HR,Nat.add_assoc,Nat.add_comm,Nat.add_left_comm]
   rw[e9];exact h5
  refine aL ?_;refine au ?_;by_cases am0:op=6
  ·subst am0;refine ye ?_;refine lB fk ?_;refine lB fk ?_;refine oC (adZ C.hF vA lb lo (by omega) pP ux hb ho (⟨mv,h4⟩:Mt w0 w4 b (L++E) vv bv) (by simp only[List.length_append];omega)) ?_;rintro r w5⟨rfl,h5,oZ⟩;refine au ?_;refine bK func203 rfl ⟨rfl,?_,B5.tr oZ⟩;have e9:L++fS vs (.mk 6 v e f lb lo) L.length=HS (L++E) (cN vs lb ((L++E).length+1)) (cN vs lo ((L++E).length+1+(cN vs lb ((L++E).length+1)).length+1)):=by
    rw[fS,if_neg (by decide),if_pos rfl,kH,List.length_append];simp[rm,HS,Nat.add_assoc,Nat.add_comm,Nat.add_left_comm]
   rw[e9];exact h5
  refine aL ?_;refine au ?_;have am1:op=7:=by omega
  subst am1;refine ye ?_;refine au ?_;refine ai _ (bL _ rfl rfl (Dx 15) w4) ?_;refine oC (uQ (⟨mv,h4⟩:Mt w0 w4 b (L++E) vv bv) (15,0,0,0) (by simp only[List.length_append];omega)) ?_;rintro r w5⟨rfl,h5,oZ⟩;refine au ?_;refine bK func203 rfl ⟨rfl,?_,B5.tr oZ⟩;simpa[fS,jB,fI,cY,kH]using h5
theorem ahB(av ab:Option Addr)(n1 n2 c1 c2:Nat):prog.built vz [(1,.agg #[.slice av n1 c1,.slice ab n2 c2])]=some [Value.slice none 0 0,.slice av n1 c1,.slice ab n2 c2].toArray:=by kernel_rfl
theorem mkC:MkC:=⟨by
 intro F w x vs body hp hF du bw;have sh:=hp;obtain⟨vv,bv,rfl,hv,hb⟩:=sh;obtain⟨av,aY,rfl⟩:=hv.form;obtain⟨ab,bh,rfl⟩:=hb.form;refine aG 28 func132 ?_;refine au ?_;refine aj (bY [.slice av vs.length aY,.slice ab body.length bh] rfl ?_);intro w1 x1 cJ bt ah cm;refine au ?_;refine ai (.agg #[.slice av vs.length aY,.slice ab body.length bh]) (bF [.slice av vs.length aY,.slice ab body.length bh] rfl (cm.range (by rfl))) ?_;refine oC (NQ (hp.keep ah hF.stays) (hF.keep ah) bw) ?_;rintro r w2⟨rfl,an⟩;refine au ?_;by_cases hc:dq vs body=0
 ·refine aL ?_;obtain⟨L6,l9,kv,_⟩:=JF hc;have gZ:=an.af cm (by simp);refine au ?_;refine ai (.agg #[.slice av vs.length aY,.slice ab body.length bh]) (bF [.slice av vs.length aY,.slice ab body.length bh] rfl (gZ.range (by rfl))) ?_;refine ai _ (bL _ rfl rfl (ahB av ab vs.length body.length aY bh) w2) ?_;refine aj (bY [.slice none 0 0,.slice av vs.length aY,.slice ab body.length bh] rfl ?_);intro w3 b aQ cw aw je;have bn:=(ah.tr an).tr aw;have C:HQ vs body F w (.slice av vs.length aY) (.slice ab body.length bh):=⟨hp,hF,L6⟩;have h3:Mt w w3 b [] (.slice av vs.length aY) (.slice ab body.length bh):=⟨_,bn,by have:=(ah.tr an).size;omega,je,fN.nil _ _ _⟩;refine lB (aw.af gZ (by simp)) ?_;refine oC (J0 (L':=cN vs body 0) C.hF (af6 C (cu body+1)) body (by omega) kv 0 hb h3 (by simp;omega) rfl rfl) ?_;rintro r w4⟨rfl,h4,qu⟩;have L7:=sC vs body 0;refine au ?_;refine ai _ (bL _ rfl rfl (Dx 16) w4) ?_;refine oC (uQ h4 bA (by omega)) ?_;rintro r w5⟨rfl,⟨mv,h5⟩,oZ⟩;refine lB h5.bk ?_;refine au ?_;refine nH func132 rfl ⟨⟨mv,by rw[hc],?_⟩,h5.kp⟩;unfold Gt;rw[if_pos hc];exact h5.row.ins
 ·refine ye ?_;refine au ?_;refine nH func132 rfl ⟨⟨_,rfl,?_⟩,ah.tr an⟩;unfold Gt;rw[if_neg hc];exact lC.nil⟩
theorem agM:prog.built zd []=some CX.toArray:=by kernel_rfl
theorem ais(d q:Nat)(a b:Option Addr)(n c m e:Nat)(k:Int):prog.built tLf [(1,.pointer (some ⟨d,0,none⟩)),(2,.slice a n c),(3,.slice b m e),(4,.pointer (some ⟨q,0,none⟩)),(5,.int .i64 k)]=some [Value.pointer none,.pointer (some ⟨d,0,none⟩),.slice a n c,.slice b m e,.pointer (some ⟨q,0,none⟩),.int .i64 k].toArray:=by kernel_rfl
theorem jH.cells{vs:List aJ}{body:List ST}{inp:List Int}{z:Lz}{i:Nat}(h:jH vs body inp z i)(cX:dq vs body=0)(bw:cu body≤1000):(aT vs).toNat=z.lf.m.cells.length:=by
 obtain⟨_,g,hg,hI⟩:=h;obtain⟨c,hc,Al,hP⟩:=zv cX bw;have lI:c=(aT vs).toNat:=by omega
 subst lI;have h1:(z.lf.m.cells.length:Int)=(aT vs).toNat:=(jd.fit hI hP).1.cells;omega
theorem jH.stat{vs:List aJ}{body:List ST}{inp:List Int}{z:Lz}{i:Nat}(h:jH vs body inp z i)(cX:dq vs body=0)(bw:cu body≤1000):z.lf.m.state≤14:=by
 obtain⟨_,g,hg,hI⟩:=h;obtain⟨c,hc,Al,hP⟩:=zv cX bw;have lI:c=(aT vs).toNat:=by omega
 subst lI;exact(jd.fit hI hP).2.2.2.1
section
variable{vs:List aJ}{body:List ST}{inp:List Int}{B:Nat}{w w':World}{x y d q i:Nat}{fp fm AP rd:List Nat}{cv iv:Value}{z z':Lz}
theorem aed(h:LV vs body inp B w y fp z)(hz:jH vs body inp z i)(hi:i≤300000)(cX:dq vs body=0)(bw:cu body≤1000):aC prog 73 [.pointer (some ⟨y,0,none⟩)] w fun r w'=>(∃ov cv,r=.agg (cI (lU z.lf.m z.lf.p) ov cv).toArray∧xB w' ov z.lf.p.1∧eS w' cv z.lf.m.cells∧Nw w ov∧Nw w cv)∧ae [] w w':=by
 obtain⟨b1,b2,b3⟩:=hz.aF cX bw;have b4:=hz.stat cX bw;have b5:=hz.cells cX bw;refine aG 12 func73 ?_;refine au ?_;refine aj (bO _ rfl sG ?_);intro w1 x2 gi bt ah aM;have h1:=h.keep ah (fun k hk=>by cases hk);obtain⟨x,d,q,cv,iv,rd,fm,rfl,l1,l2,l3⟩:=h1;refine au ?_;refine bC (fun w'=>ae [] w1 w') [9] bE ?_;have hS:ae [] w1 w1.drew:=(ae.refl _ _).drew;generalize w1.drew=w2 at*;refine tk 0 ?_;refine tk 1 ?_;refine tk 2 ?_;refine aI 3 (.pointer (some ⟨x,0,none⟩)) rfl (fun w9 aq=>aB rfl ((l1.aA aq).af.cell rfl)) hS ?_;refine tk 4 ?_;refine tk 5 ?_;refine tk 6 ?_;refine aI 7 (.int .i64 ((aT vs).toNat:Nat)) rfl (fun w9 aq=>aB rfl ((l1.aA aq).af.cell rfl)) hS ?_;refine dC 8 ((l2.aA hS).result b3 (by omega) (by omega) b2 b5) ?_;rintro r w3⟨⟨ov,cv,rfl,ho,hc,no,nc⟩,aw⟩;have kv:=hS.tr aw;refine⟨fun _=>kv,?_⟩;have aQ:=kv.af aM (by simp);obtain⟨oa,ok,rfl⟩:=ho.1.form;obtain⟨ca,ck,rfl⟩:=hc.form;refine a8 9 rfl (aH (cI (lU z.lf.m z.lf.p) (.slice oa z.lf.p.1.length ok) (.slice ca z.lf.m.cells.length ck)) rfl rO aQ (by simp[cI]) (rN _ _ _ _ _ _ _) ?_);intro w4 cz ax a_;rw[bs (by rfl)]at a_;refine⟨fun h=>absurd (by simp) h,?_⟩;refine bm ?_;have s2:=hS.size;have Qo:w.heap.size≤w2.heap.size:=by omega
 refine au ?_;refine df func73 (.inr (.inr (.inl ⟨_,_,_,rfl,rfl,cV hT a_ rfl⟩))) ⟨⟨_,_,rfl,⟨ho.1.Zm ax (no.YV (by omega)),ho.2⟩,hc.Zm ax (nc.YV (by omega)),no.low Qo,nc.low Qo⟩,(ah.tr kv).aO ax (by omega)⟩
end
theorem aec{F:Nat→Prop}{w:World}{x iv:Value}{vs:List aJ}{body:List ST}{inp:List Int}(hp:iN F w x vs body)(hF:In F w)(hi:xB w iv inp)(du:vs.length≤100000)(bw:cu body≤1000)(fF:inp.length≤100000):aC prog 98 [x,iv] w fun r w'=>(∃pv,r=.tuple #[pv,.int .i64 (qW vs body inp)]∧(qW vs body inp=0→∃y fp,pv=.pointer (some ⟨y,0,none⟩)∧LV vs body inp w.heap.size w' y fp (lz0 (aT vs).toNat)))∧ae [] w w':=by
 have su:=hp;obtain⟨vv,bv,rfl,hv,hb⟩:=hp;obtain⟨av,aY,rfl⟩:=hv.form;obtain⟨ab,bh,rfl⟩:=hb.form;have Ar:=hi.1;obtain⟨ia,gN,rfl,L3⟩:=Ar;refine aG 33 func98 ?_;refine au ?_;refine aj (bY [.slice av vs.length aY,.slice ab body.length bh] rfl ?_);intro w1 x2 gi bt ah cm;refine au ?_;refine ai (.agg #[.slice av vs.length aY,.slice ab body.length bh]) (bF [.slice av vs.length aY,.slice ab body.length bh] rfl (cm.range (by rfl))) ?_;refine oC (mkC.make (su.keep ah hF.stays) (hF.keep ah) (by omega) (by omega)) ?_;rintro r w2⟨⟨cv,rfl,hI⟩,an⟩;obtain⟨ca,cA,cL⟩:=hI.form;subst cL;have br:=ah.tr an;have gZ:=an.af cm (by simp);refine au ?_;by_cases cX:¬dq vs body=0
 ·have hn:qW vs body inp=dq vs body:=by
   unfold qW;rw[if_neg cX]
  refine ye ?_;refine au ?_;rw[hn];exact nH func98 rfl ⟨⟨_,rfl,fun h=>absurd h cX⟩,br⟩
 replace cX:dq vs body=0:=by omega
 rw[cX];refine aL ?_;refine au ?_;by_cases hl:¬inp.length≤40
 ·have hn:qW vs body inp=1:=by
   unfold qW;rw[if_pos cX,if_neg hl]
  refine ye ?_;refine au ?_;rw[hn];exact nH func98 rfl ⟨⟨_,rfl,fun h=>absurd h (by decide)⟩,br⟩
 replace hl:inp.length≤40:=by omega
 have hn:qW vs body inp=0:=by
  unfold qW;rw[if_pos cX,if_pos hl]
 have hmk:Gt vs body=bB vs body:=by
  unfold Gt;rw[if_pos cX]
 obtain⟨aaq,_,_,kb,an_⟩:=JF cX;have pN:cellOf vs (vs.length:Nat)=(((aT vs).toNat:Nat):Int):=by
  unfold cellOf;rw[Int.toNat_natCast,List.take_length];omega
 refine aL ?_;refine au ?_;rw[hmk]at hI;rw[hmk];obtain⟨rb,AN,IA⟩:=hI.own;refine bC (fun w'=>ae [] w2 w') [] bE ?_;have hS:ae [] w2 w2.drew:=(ae.refl _ _).drew;generalize w2.drew=w3 at*;refine tk 1 ?_;refine tk 2 ?_;refine bD 4 _ rfl (fun w=>bL _ rfl rfl agM w) ?_;refine aI 6 (.agg #[.slice av vs.length aY,.slice ab body.length bh]) rfl (fun w9 aq=>bF [.slice av vs.length aY,.slice ab body.length bh] rfl ((aq.af gZ (by simp)).range (by rfl))) hS ?_;have clone:∀{w4:World},ae [] w2 w4→aC prog 134 [.slice ia inp.length gN] w4 fun r w'=>bl w' w2.heap.size r inp∧ae [] w4 w':=fun{w4} hk=>by
  refine(Nu (hi.1.aA (br.tr hk)) (by omega)).mono ?_;rintro r w'⟨hr,aK⟩;exact⟨hr.low hk.size,aK⟩
 have cells:∀{w4:World},ae [] w2 w4→aC prog 135 [.agg #[.slice av vs.length aY,.slice ab body.length bh]] w4 fun r w'=>r=.int .i64 (((aT vs).toNat:Nat):Int)∧ae [] w4 w':=fun{w4} hk=>by
  rw[←pN];exact Vq (su.keep (br.tr hk) hF.stays) (hF.keep (br.tr hk)) aaq
 refine yb 3 255 (fun σ' w'=>∃d q B0 oz oA,fL B0 w' d (List.replicate 272 0) [] (.slice none 0 0)∧w2.heap.size≤B0∧ak w' q CX zd∧w2.heap.size≤q∧bl w' w2.heap.size (.slice oz inp.length oA) inp∧ae [] w2 w'∧
  Sub [(20,.pointer (some ⟨d,0,none⟩)),(21,.slice ca (bB vs body).length cA),(23,.slice oz inp.length oA),(25,.pointer (some ⟨q,0,none⟩)),(27,.int .i64 (((aT vs).toNat:Nat):Int))] σ') ?_ ?_
 ·rintro σ' w4⟨d,q,B0,oz,oA,hd,Se,hq,hqB,bN,gR,bH⟩;refine yg bH ?_;refine bD 8 _ rfl (fun w=>bL _ rfl rfl (ais d q ca oz (bB vs body).length cA inp.length oA (((aT vs).toNat:Nat):Int)) w) ?_;refine a8 9 rfl (bY (Sv (.pointer none) d q (.slice ca (bB vs body).length cA) (.slice oz inp.length oA) (aT vs).toNat) rfl ?_);intro w5 y hy iV aE hY5;have jO:=gR.tr aE;refine⟨fun _=>jO,?_⟩;refine tk 10 ?_;refine bm ?_;refine au ?_;have arl:=br.size;have sg:=ah.size;have s45:=gR.size;have xi:=hd.af.lt;have hdb:=hd.base;have hql:=hq.lt;have xx:d∉rb++aW (.slice oz inp.length oA):=fun hm=>by
   rcases List.mem_append.1 hm with hm|hm
   ·have:=(AN d hm).2;omega
   ·exact bN.ne hd.af (by decide) d hm (by simp)
  have hnq:q∉rb++aW (.slice oz inp.length oA):=fun hm=>by
   rcases List.mem_append.1 hm with hm|hm
   ·have:=(AN q hm).2;omega
   ·exact bN.ne hq (by decide) q hm (by simp)
  have hny:y∉rb++aW (.slice oz inp.length oA):=fun hm=>by
   rcases List.mem_append.1 hm with hm|hm
   ·have:=(AN y hm).2;omega
   ·have:=(bN.lt y hm).2;omega
  have tK:∀k∈rb++aW (.slice oz inp.length oA),w.heap.size≤k∧k<w5.heap.size:=fun k hk=>by
   rcases List.mem_append.1 hk with hm|hm
   ·have:=AN k hm;exact⟨by omega,by omega⟩
   ·have:=bN.lt k hm;exact⟨by omega,by omega⟩
  have ID:uH (rb++aW (.slice oz inp.length oA)) w.heap.size w5 y (.pointer none) d q (.slice ca (bB vs body).length cA) (.slice oz inp.length oA) (bB vs body) inp (aT vs).toNat:=by
   refine⟨hY5,?_,?_,by omega,tK,hny,hl⟩
   ·obtain⟨a,cap,e,h2⟩:=IA.keep jO (fun c hR=>⟨(AN c hR).2,by simp⟩);refine⟨a,cap,e,fun h0=>?_⟩;obtain⟨b,o,e1,hR,hr⟩:=h2 h0;exact⟨b,o,e1,List.mem_append.2 (.inl hR),hr⟩
   ·obtain⟨a,cap,e,h2⟩:=(bN.keep aE (fun k _=>by simp)).nQ;refine⟨a,cap,e,fun h0=>?_⟩;obtain⟨b,o,e1,hb,hr⟩:=h2 h0;refine⟨b,o,e1,List.mem_append.2 (.inr ?_),hr⟩;injection e with e2 e3 e4;rw[e2,e1];simp[aW,Value.ownBlock]
  have SB:Dk (·∈rb++aW (.slice oz inp.length oA)) w.heap.size w5 d q (.slice none 0 0) ([],false) (List.replicate 112 0) 0:=
   Dk.first (hd.keep aE (fun _ _=>by simp)) (by omega) (aE.af hq (by simp)) ⟨by omega,hnq⟩ xx fun k hk=>(tK k hk).2
  refine aj (aV (fst:=[]) (cap:=[]) rfl ((WS (mm:=gL (aT vs).toNat) (W:=List.replicate 112 0) (k:=gL (aT vs).toNat) ID rfl SB (fun hm=>by
   simp[aW,Value.ownBlock]at hm;omega) (aoa _ (by omega)) (by simp[gL];omega) (by simp) (by omega)).mono ?_))
  rintro r w6⟨rfl,fp',h6,aD,_⟩;refine au ?_;rw[hn];exact nH func98 rfl ⟨⟨_,rfl,fun _=>⟨y,fp',rfl,h6⟩⟩,(br.tr jO).aO aD (by omega)⟩
 intro fin;have arW:=hS.size;refine Br 0 5 rfl rfl (by decide+kernel) rfl rfl rfl rfl ?_ ?_
 ·refine aV (fst:=[]) (cap:=[]) rfl ((XN w3).mono ?_);rintro r w4⟨rfl,qB,ax⟩;have gR:=hS.tr ax;have z4:=gR.size;refine⟨fun _=>gR,?_⟩;refine Br 3 5 rfl rfl (by decide+kernel) rfl rfl rfl rfl ?_ ?_
  ·refine aV (fst:=[]) (cap:=[]) rfl ((clone gR).mono ?_);rintro r w5⟨jW,aE⟩;obtain⟨oz,oA,rfl⟩:=jW.form;have jO:=gR.tr aE;have z5:=jO.size;refine⟨fun _=>jO,?_⟩;have pT:=qB.keep aE (fun _ _=>by simp);refine Br 5 7 rfl rfl (by decide+kernel) rfl rfl rfl rfl ?_ ?_
   ·refine bY CX rfl ?_;intro w6 q hq iI aD dM;have iU:=jO.tr aD;refine⟨fun _=>iU,?_⟩;refine dC 7 (cells iU) ?_;rintro r w7⟨rfl,aN⟩;refine⟨fun _=>iU.tr aN,?_⟩;exact fin _ _ ⟨_,q,_,oz,oA,(pT.keep aD (fun _ _=>by simp)).keep aN (fun _ _=>by simp),by omega,aN.af dM (by simp),by omega,(jW.keep aD (fun k _=>by simp)).keep aN (fun k _=>by simp),iU.tr aN,rfl,rfl,rfl,rfl,rfl,trivial⟩
   ·refine aV (fst:=[]) (cap:=[]) rfl ((cells jO).mono ?_);rintro r w6⟨rfl,aD⟩;have iU:=jO.tr aD;have z6:=iU.size;refine⟨fun _=>iU,?_⟩;refine a8 5 rfl (bY CX rfl ?_);intro w7 q hq jr aN eC;refine⟨fun _=>iU.tr aN,?_⟩;exact fin _ _ ⟨_,q,_,oz,oA,(pT.keep aD (fun _ _=>by simp)).keep aN (fun _ _=>by simp),by omega,eC,by omega,(jW.keep aD (fun k _=>by simp)).keep aN (fun k _=>by simp),iU.tr aN,rfl,rfl,rfl,rfl,rfl,trivial⟩
  ·refine bY CX rfl ?_;intro w5 q hq iV aE cr;have jO:=gR.tr aE;refine⟨fun _=>jO,?_⟩;refine dC 3 (clone jO) ?_;rintro r w6⟨tL,aD⟩;obtain⟨oz,oA,rfl⟩:=tL.form;have iU:=jO.tr aD;refine⟨fun _=>iU,?_⟩;refine dC 7 (cells iU) ?_;rintro r w7⟨rfl,aN⟩;refine⟨fun _=>iU.tr aN,?_⟩;exact fin _ _ ⟨_,q,_,oz,oA,((qB.keep aE (fun _ _=>by simp)).keep aD (fun _ _=>by simp)).keep aN (fun _ _=>by simp),by omega,aN.af (aD.af cr (by simp)) (by simp),by omega,tL.keep aN (fun k _=>by simp),iU.tr aN,rfl,rfl,rfl,rfl,rfl,trivial⟩
 ·refine bY CX rfl ?_;intro w4 q hq cz ax a_;have gR:=hS.tr ax;have z4:=gR.size;refine⟨fun _=>gR,?_⟩;refine dC 0 (XN w4) ?_;rintro r w5⟨rfl,pT,aE⟩;have jO:=gR.tr aE;refine⟨fun _=>jO,?_⟩;refine dC 3 (clone jO) ?_;rintro r w6⟨tL,aD⟩;obtain⟨oz,oA,rfl⟩:=tL.form;have iU:=jO.tr aD;refine⟨fun _=>iU,?_⟩;refine dC 7 (cells iU) ?_;rintro r w7⟨rfl,aN⟩;refine⟨fun _=>iU.tr aN,?_⟩;exact fin _ _ ⟨_,q,_,oz,oA,(pT.keep aD (fun _ _=>by simp)).keep aN (fun _ _=>by simp),by omega,aN.af (aD.af (aE.af a_ (by simp)) (by simp)) (by simp),by omega,tL.keep aN (fun k _=>by simp),iU.tr aN,rfl,rfl,rfl,rfl,rfl,trivial⟩
abbrev TD:Nat:=45
abbrev TS:Nat:=9
def uf(B:Nat)(w:World)(lv:Value)(fl:List Nat)(cnt:Nat):Option (List aJ×List ST×List Int×Lf)→Prop
 |none=>lv=.pointer none∧fl=[]
 |some q=>∃y BL z,lv=.pointer (some ⟨y,0,none⟩)∧B≤BL∧LV q.1 q.2.1 q.2.2.1 BL w y fl z∧z.lf=q.2.2.2∧0≤z.gen∧z.gen≤(cnt:Int)
structure Dv(B:Nat)(w:World)(d:Nat)(tv iv lv:Value)(fl:List Nat)(s:Ds):Prop where
 bk:ak w d [tv,iv,lv] TD
 lo:B≤d
 tx:Own w B TS 1 tv s.bI.length (strs s.bI)
 ip:bl w B iv s.inp
 lf:uf B w lv fl s.cnt s.fZ
 dj:∀k∈fl,k≠d∧k∉aW tv∧k∉aW iv
def rz(d:Nat)(tv iv:Value)(fl:List Nat):List Nat:=d::(aW tv++aW iv++fl)
def qx(B:Nat)(w:World)(d:Nat)(fd:List Nat)(s:Ds):Prop:=∃tv iv lv fl,Dv B w d tv iv lv fl s∧fd=rz d tv iv fl
theorem G4:TD≠TS:=by decide
theorem Qk:TD≠dA:=by decide
theorem Ql:TS≠dA:=by decide
section
variable{B:Nat}{w w1 w2:World}{d:Nat}{tv iv lv:Value}{fl fp:List Nat}{s:Ds}
theorem eX{k:Nat}:k∈rz d tv iv fl↔k=d∨k∈aW tv∨k∈aW iv∨k∈fl:=by simp[rz]
theorem uf.lt{cnt:Nat}{o:Option (List aJ×List ST×List Int×Lf)}(h:uf B w lv fl cnt o):∀k∈fl,B≤k∧k<w.heap.size:=by
 cases o with
 |none=>intro k hk;rw[h.2]at hk;cases hk
 |some q=>
  obtain⟨y,BL,z,_,h2,h3,_⟩:=h;exact fun k hk=>⟨Nat.le_trans h2 (LV.lt h3 k hk).1,(LV.lt h3 k hk).2⟩
theorem uf.keep{cnt:Nat}{o:Option (List aJ×List ST×List Int×Lf)}(h:uf B w lv fl cnt o)(hk:ae fp w w1)(hn:∀k∈fl,k∉fp):uf B w1 lv fl cnt o:=by
 cases o with
 |none=>exact h
 |some q=>
  obtain⟨y,BL,z,h1,h2,h3,h4⟩:=h;exact⟨y,BL,z,h1,h2,LV.keep h3 hk fun k aK hm=>hn k hm aK,h4⟩
theorem mj{e size n:Nat}{v:Value}{xs:List Value}(h:Own w B e size v n xs):∀k∈aW v,∃L,ak w k L e:=fun k hk=>by
 rcases h.2 with⟨rfl,_⟩|⟨g,cap,cur,rfl,_,hg,_⟩
 ·simp[aW,Value.ownBlock]at hk
 ·simp[aW,Value.ownBlock]at hk;subst hk;exact⟨cur,hg⟩
theorem Dv.lt(h:Dv B w d tv iv lv fl s):∀k∈rz d tv iv fl,B≤k∧k<w.heap.size:=fun k hk=>by
 rcases eX.1 hk with rfl|hk|hk|hk
 ·exact⟨h.lo,h.bk.lt⟩
 ·exact h.tx.lt k (iM.1 hk)
 ·exact h.ip.lt k hk
 ·exact h.lf.lt k hk
theorem Dv.keep(h:Dv B w d tv iv lv fl s)(hk:ae fp w w1)(hn:∀k∈rz d tv iv fl,k∉fp):Dv B w1 d tv iv lv fl s:=
 ⟨hk.af h.bk (hn d (eX.2 (.inl rfl))),h.lo,h.tx.keep hk fun k aK=>hn k (eX.2 (.inr (.inl (iM.2 aK)))),h.ip.keep hk fun k aK=>hn k (eX.2 (.inr (.inr (.inl aK)))),h.lf.keep hk fun k aK=>hn k (eX.2 (.inr (.inr (.inr aK)))),h.dj⟩
theorem qx.lt{fd:List Nat}(h:qx B w d fd s):∀k∈fd,B≤k∧k<w.heap.size:=by
 obtain⟨tv,iv,lv,fl,h,rfl⟩:=h;exact h.lt
theorem qx.keep{fd:List Nat}(h:qx B w d fd s)(hk:ae fp w w1)(hn:∀k∈fd,k∉fp):qx B w1 d fd s:=by
 obtain⟨tv,iv,lv,fl,h,rfl⟩:=h;exact⟨tv,iv,lv,fl,h.keep hk hn,rfl⟩
theorem qx.aA{fd:List Nat}(h:qx B w d fd s)(hk:ae [] w w1):qx B w1 d fd s:=h.keep hk fun _ _=>by simp
theorem Dv.ug(h:Dv B w d tv iv lv fl s){qy:Value}{t:List (List UInt8)}(ah:ae (aW tv) w w1)(ho:Own w1 B TS 1 qy t.length (strs t))(fW:∀k∈aW qy,k∈aW tv∨w.heap.size≤k)(hk:ae [d] w1 w2)(hb:ak w2 d [qy,iv,lv] TD):Dv B w2 d qy iv lv fl {s with bI:=t}∧Tn (rz d tv iv fl) (rz d qy iv fl) w w2:=by
 have js:ak w1 d [tv,iv,lv] TD:=ah.af h.bk fun hm=>by
  obtain⟨L,hL⟩:=mj h.tx d hm;exact ak.ne h.bk hL G4 rfl
 have Ah:∀k∈aW iv,k∉aW tv:=fun k hi ht=>by
  obtain⟨L,hL⟩:=mj h.tx k ht;obtain⟨L',mB⟩:=mj h.ip k hi;exact ak.ne hL mB Ql rfl
 refine⟨⟨hb,h.lo,ho.keep hk fun k aK hm=>?_,(h.ip.keep ah Ah).keep hk fun k aK hm=>?_,(h.lf.keep ah fun k aK=>(h.dj k aK).2.1).keep hk fun k aK hm=>(h.dj k aK).1 (List.mem_singleton.1 hm),fun k aK=>⟨(h.dj k aK).1,fun hm=>?_,(h.dj k aK).2.2⟩⟩,?_,fun k aK=>?_⟩
 ·obtain⟨L,hL⟩:=mj ho k (iM.2 aK);rw[List.mem_singleton.1 hm]at hL;exact ak.ne js hL G4 rfl
 ·obtain⟨L,hL⟩:=mj h.ip k aK;rw[List.mem_singleton.1 hm]at hL;exact ak.ne h.bk hL Qk rfl
 ·rcases fW k hm with h1|h1
  ·exact(h.dj k aK).2.1 h1
  ·have:=(h.lf.lt k aK).2;omega
 ·exact(ah.mono fun k aK=>.inl (eX.2 (.inr (.inl aK)))).tr (hk.mono fun k aK=>.inl (eX.2 (.inl (List.mem_singleton.1 aK))))
 ·rcases eX.1 aK with h1|h1|h1|h1
  ·exact .inl (eX.2 (.inl h1))
  ·exact(fW k h1).imp (fun h=>eX.2 (.inr (.inl h))) id
  ·exact .inl (eX.2 (.inr (.inr (.inl h1))))
  ·exact .inl (eX.2 (.inr (.inr (.inr h1))))
theorem Dv.te(h:Dv B w d tv iv lv fl s){vG:Value}{n:List Int}(ho:bl w B vG n)(fW:∀k∈aW vG,k∉fl)(hk:ae [d] w w2)(hb:ak w2 d [tv,vG,lv] TD):Dv B w2 d tv vG lv fl {s with inp:=n}∧ae (rz d tv iv fl) w w2:=by
 refine⟨⟨hb,h.lo,h.tx.keep hk fun k aK hm=>?_,ho.keep hk fun k aK hm=>?_,h.lf.keep hk fun k aK hm=>(h.dj k aK).1 (List.mem_singleton.1 hm),fun k aK=>⟨(h.dj k aK).1,(h.dj k aK).2.1,fun hm=>fW k hm aK⟩⟩,hk.mono fun k aK=>.inl (eX.2 (.inl (List.mem_singleton.1 aK)))⟩
 ·obtain⟨L,hL⟩:=mj h.tx k (iM.2 aK);rw[List.mem_singleton.1 hm]at hL;exact ak.ne h.bk hL G4 rfl
 ·obtain⟨L,hL⟩:=mj ho k aK;rw[List.mem_singleton.1 hm]at hL;exact ak.ne h.bk hL Qk rfl
theorem Dv.anf(h:Dv B w d tv iv lv fl s){RZ:Value}{fl':List Nat}{cnt:Nat}{o:Option (List aJ×List ST×List Int×Lf)}(hl:uf B w RZ fl' cnt o)(fW:∀k∈fl',k∉rz d tv iv [])(hk:ae [d] w w2)(hb:ak w2 d [tv,iv,RZ] TD):Dv B w2 d tv iv RZ fl' {s with fZ:=o,cnt:=cnt}:=by
 have hd:∀k∈fl',k≠d∧k∉aW tv∧k∉aW iv:=fun k aK=>⟨fun e=>fW k aK (eX.2 (.inl e)),fun hm=>fW k aK (eX.2 (.inr (.inl hm))),fun hm=>fW k aK (eX.2 (.inr (.inr (.inl hm))))⟩;refine⟨hb,h.lo,h.tx.keep hk fun k aK hm=>?_,h.ip.keep hk fun k aK hm=>?_,hl.keep hk fun k aK hm=>(hd k aK).1 (List.mem_singleton.1 hm),hd⟩
 ·obtain⟨L,hL⟩:=mj h.tx k (iM.2 aK);rw[List.mem_singleton.1 hm]at hL;exact ak.ne h.bk hL G4 rfl
 ·obtain⟨L,hL⟩:=mj h.ip k aK;rw[List.mem_singleton.1 hm]at hL;exact ak.ne h.bk hL Qk rfl
theorem Dv.rA(h:Dv B w d tv iv lv fl s){fl':List Nat}{cnt:Nat}{o:Option (List aJ×List ST×List Int×Lf)}(hk:ae fl w w1)(hl:uf B w1 lv fl' cnt o)(fW:∀k∈fl',k∈fl∨w.heap.size≤k):Dv B w1 d tv iv lv fl' {s with fZ:=o,cnt:=cnt}∧Tn (rz d tv iv fl) (rz d tv iv fl') w w1:=by
 have az:=h.lt;have np:∀k∈rz d tv iv [],k∉fl:=fun k aK hm=>by
  obtain⟨a,b,c⟩:=h.dj k hm;rcases eX.1 aK with h1|h1|h1|h1
  ·exact a h1
  ·exact b h1
  ·exact c h1
  ·cases h1
 have qj:∀k∈fl',k∉rz d tv iv []:=fun k aK hm=>by
  rcases fW k aK with h1|h1
  ·exact np k hm h1
  ·have:=(az k (eX.2 ((eX.1 hm).imp id fun h=>h.imp id fun h=>h.imp id fun h=>by cases h))).2;omega
 refine⟨⟨hk.af h.bk (np d (eX.2 (.inl rfl))),h.lo,h.tx.keep hk fun k aK=>np k (eX.2 (.inr (.inl (iM.2 aK)))),h.ip.keep hk fun k aK=>np k (eX.2 (.inr (.inr (.inl aK)))),hl,fun k aK=>⟨fun e=>qj k aK (eX.2 (.inl e)),fun hm=>qj k aK (eX.2 (.inr (.inl hm))),fun hm=>qj k aK (eX.2 (.inr (.inr (.inl hm))))⟩⟩,hk.mono fun k aK=>.inl (eX.2 (.inr (.inr (.inr aK)))),fun k aK=>?_⟩;rcases eX.1 aK with h1|h1|h1|h1
 ·exact .inl (eX.2 (.inl h1))
 ·exact .inl (eX.2 (.inr (.inl h1)))
 ·exact .inl (eX.2 (.inr (.inr (.inl h1))))
 ·exact(fW k h1).imp (fun h=>eX.2 (.inr (.inr (.inr h)))) id
theorem Kl{v:Value}{l:List (List UInt8)}(h:Own w B TS 1 v l.length (strs l)):gz w v l:=by
 rcases h.2 with⟨rfl,h2⟩|⟨g,cap,cur,rfl,_,hb,hc,_,ht⟩
 ·exact⟨none,0,by rw[h2],by omega,fun h0=>by omega⟩
 ·refine⟨_,cap,rfl,hc,fun _=>⟨g,0,rfl,hb.lt,hb.range ?_⟩⟩;rw[List.drop_zero,aea];rw[Nat.mul_one]at ht;exact ht
end
structure Ck(w00 w:World)(c d:Nat)(fw fd:List Nat)(L:List UInt8)(s:Ds):Prop where
 k0:ae [] w00 w
 ct:Cw w00.heap.size w c d fw L
 dk:qx w00.heap.size w d fd s
 dj:∀k∈fw,k∉fd
def dK(w00 w w':World)(c d:Nat)(fw fd:List Nat)(L:List UInt8)(s:Ds):Prop:=∃jR sq,Ck w00 w' c d jR sq L s∧ae (fw++fd) w w'∧(∀k∈jR,k∈fw∨w.heap.size≤k)∧∀k∈sq,k∈fd∨w.heap.size≤k
section
variable{w00 w w1 w2:World}{c d:Nat}{fw fd jR sq:List Nat}{L L' L2:List UInt8}{s s' s2:Ds}
theorem Ck.aA(h:Ck w00 w c d fw fd L s)(hk:ae [] w w1):Ck w00 w1 c d fw fd L s:=⟨h.k0.tr hk,h.ct.aA hk,h.dk.aA hk,h.dj⟩
theorem Ck.low(h:Ck w00 w c d fw fd L s):∀k∈fw++fd,w00.heap.size≤k∧k<w.heap.size:=fun k hk=>(List.mem_append.1 hk).elim (h.ct.lt k) (h.dk.lt k)
theorem Ck.here(h:Ck w00 w c d fw fd L s):dK w00 w w c d fw fd L s:=⟨fw,fd,h,ae.refl _ _,fun _ hk=>.inl hk,fun _ hk=>.inl hk⟩
theorem dK.late(hk:ae [] w w1)(h:dK w00 w1 w2 c d fw fd L s):dK w00 w w2 c d fw fd L s:=by
 obtain⟨jR,sq,h1,h2,h3,h4⟩:=h;exact⟨jR,sq,h1,hk.bG.tr h2,fun k aK=>(h3 k aK).imp id fun h=>Nat.le_trans hk.size h,fun k aK=>(h4 k aK).imp id fun h=>Nat.le_trans hk.size h⟩
theorem dK.on{Me fd1:List Nat}(h2:ae (fw++fd) w w1)(h3:∀k∈Me,k∈fw∨w.heap.size≤k)(h4:∀k∈fd1,k∈fd∨w.heap.size≤k)(h':dK w00 w1 w2 c d Me fd1 L2 s2):dK w00 w w2 c d fw fd L2 s2:=by
 obtain⟨H5,fd2,g1,g2,g3,g4⟩:=h';refine⟨H5,fd2,g1,h2.trans g2 fun k hk=>?_,fun k hk=>?_,fun k hk=>?_⟩
 ·rcases List.mem_append.1 hk with hk|hk
  ·exact(h3 k hk).imp (fun h=>List.mem_append.2 (.inl h)) id
  ·exact(h4 k hk).imp (fun h=>List.mem_append.2 (.inr h)) id
 ·exact(g3 k hk).elim (h3 k) fun h=>.inr (Nat.le_trans h2.size h)
 ·exact(g4 k hk).elim (h4 k) fun h=>.inr (Nat.le_trans h2.size h)
theorem Ck.wN(h:Ck w00 w c d fw fd L s)(hc:Cw w00.heap.size w1 c d jR L')(ht:Tn fw jR w w1):dK w00 w w1 c d fw fd L' s:=by
 refine⟨jR,fd,⟨h.ct.k0 h.k0 ht,hc,h.dk.keep ht.1 fun k hk hm=>h.dj k hm hk,fun k hk hm=>?_⟩,ht.1.mono fun k hk=>.inl (List.mem_append.2 (.inl hk)),ht.2,fun _ hk=>.inl hk⟩;rcases ht.2 k hk with h1|h1
 ·exact h.dj k h1 hm
 ·have:=(h.dk.lt k hm).2;omega
theorem Ck.turns(h:Ck w00 w c d fw fd L s)(hd:qx w00.heap.size w1 d sq s')(ht:Tn fd sq w w1):dK w00 w w1 c d fw fd L s':=by
 refine⟨fw,sq,⟨h.k0.trans ht.1 fun k hm=>.inr (h.dk.lt k hm).1,h.ct.keep ht.1 fun k hk hm=>h.dj k hk hm,hd,fun k hk hm=>?_⟩,ht.1.mono fun k hk=>.inl (List.mem_append.2 (.inr hk)),fun _ hk=>.inl hk,ht.2⟩;rcases ht.2 k hm with h1|h1
 ·exact h.dj k hk h1
 ·have:=(h.ct.lt k hk).2;omega
end
theorem ahJ:dH prog 43 1=true:=by kernel_rfl
theorem ajP(W:List Is)(inp:List Int){s:Sp}(h:jA s=0)(z:Lz):(pF d_ W inp s z).1.lf=(lh W inp s z.lf).1∧(pF d_ W inp s z).2=(lh W inp s z.lf).2:=by
 unfold pF;rw[if_pos h];exact Km _ _ _ _
theorem A5(s:Sp):dm (jA s):=by
 unfold jA dm
 repeat' split
 all_goals decide
section
variable{w00 w:World}{c d:Nat}{fw fd:List Nat}{L:List UInt8}{s:Ds}
theorem Ck.fresh(h:Ck w00 w c d fw fd L s){k:Nat}(hk:w.heap.size≤k):k∉fw∧k∉fd:=⟨fun hm=>by have:=(h.ct.lt k hm).2;omega,fun hm=>by have:=(h.dk.lt k hm).2;omega⟩
theorem Ck.nf(h:Ck w00 w c d fw fd L s){w1:World}{v:Value}(hv:Nw w1 v)(hs:w.heap.size≤w1.heap.size):NF v fw:=fun b q n k he h0=>(h.fresh (Nat.le_trans hs (hv b q n k he h0))).1
theorem T1{g:Nat}{fst cap:List Value}(f:List aJ→List ST→Ds×List UInt8)(hg:pd prog g=true)(hw:Lw w00)(h:Ck w00 w c d fw fd L s)(hL:L.length≤700000000000)(pS:fD s.bI≤100000) (H7:∀vs body w1 x F,j1 (Lib.join s.bI [10])=.ok (vs,body)→Ck w00 w1 c d fw fd L s→ae [] w w1→iN F w1 x vs body→In F w1→aC prog g (fst++[x]++cap) w1 fun r w'=>r=.tuple #[]∧dK w00 w1 w' c d fw fd (L++(f vs body).2) (f vs body).1):aC prog 62 [.pointer (some ⟨c,0,none⟩),.func (.func g) fst.toArray cap.toArray] w fun r w'=>r=.tuple #[]∧dK w00 w w' c d fw fd (L++(jL s f).2) (jL s f).1:=by
 obtain⟨tv,iv,lv,fl,hD,ky⟩:=h.dk;obtain⟨ta,tc,htv⟩:=hD.tx.form;have jv:=Oe s.bI;have ox:=F6 s.bI;refine aG 33 func62 ?_;refine au ?_;refine ai _ (aB rfl (h.ct.rW.1)) ?_;refine lB hD.bk ?_;refine oC (ahK (Kl hD.tx) (by omega) (by omega)) ?_;rintro r w1⟨rfl,ah⟩;refine oC (ago (Lib.join s.bI [10]) (by omega) (hw.keep (h.k0.tr ah))) ?_;rintro r w2⟨⟨x,F,rfl,hP,yv,mH⟩,an⟩;have dd:In F w2:=fun k hk=>(mH k hk).2;have qz:=hP;obtain⟨vv,bv,rfl,hv,hb⟩:=hP;obtain⟨av,aY,rfl⟩:=hv.form;obtain⟨ab,bh,rfl⟩:=hb.form;refine au ?_;refine aj (bO _ rfl sH ?_);intro w3 x4 cy cw aw yT;refine au ?_;refine aj (bO _ rfl o9 ?_);intro w4 x5 gw cz ax nq;have oh:=ax.af yT (by simp);refine aj (aH _ rfl nI oh (by simp[pz]) (oJ _ _ _ _ _ _) ?_);intro w5 iV aE lp;rw[bs (by rfl)]at lp;have lr:=aE.af nq (by simp;omega);refine aj (aH _ rfl gm lr (by simp) (gp _ _) ?_);intro w6 iI aD sr;rw[bs (by rfl)]at sr;have pP:=aD.af lp (by simp;omega);have eA:ae [] w2 w4:=aw.tr ax;have Qm:ae [] w2 w6:=(eA.aO aE (by omega)).aO aD (by have:=aw.size;omega);have fy:ae [] w w6:=(ah.tr an).tr Qm;have h6:=h.aA fy;refine lB sr ?_;cases hX:j1 (Lib.join s.bI [10])with
 | error e=>
  obtain⟨e1,e2,e3⟩:=Of _ e hX;have R0:jL s f=(s,eN e_ [e.1,e.2]):=by unfold jL;rw[hX]
  rw[hX]at sr;rw[R0];have gA:(yo (.error e:Except bp (List aJ×List ST))).1≠0:=e1;refine ye ?_;refine au ?_;refine bC (fun w'=>True∧ak w' x5 [.int .i64 e.1,.int .i64 e.2] 34) [8] bE ?_;have bz:ae [] w6 w6.drew:=(ae.refl _ _).drew;have hS:True∧ak w6.drew x5 [.int .i64 e.1,.int .i64 e.2] 34:=⟨trivial,bz.af sr (by simp)⟩;have h7:=h6.aA bz;generalize w6.drew=w7 at*;refine tk 0 ?_;refine tk 1 ?_;refine tk 2 ?_;refine tk 3 ?_;refine aI 4 _ rfl (fun w9 aq=>aB rfl (ak.cell aq.2 (by rfl))) hS ?_;refine tk 5 ?_;refine aI 6 _ rfl (fun w9 aq=>aB rfl (ak.cell aq.2 (by rfl))) hS ?_;refine a8 7 rfl (eE _ _ rfl rfl (ae1 e.1 e.2) ?_);intro w8 gg Mh jP aS cB;refine⟨fun _=>⟨trivial,aS.af hS.2 (by simp)⟩,?_⟩;have h8:=h7.aA aS;refine a8 8 rfl (aV (fst:=[]) (cap:=[]) rfl ((x8 e_ (by decide) (by decide) hw.lt h8.k0 h8.ct (Gk rfl cB) (fun b q n k he _=>by
   injection he with he;injection he with he;injection he with he _;exact(h7.fresh (by omega)).1) (A9 (oI e2) (oI e3)) (by simp only[List.length_cons,List.length_nil];omega)).mono ?_))
  rintro r w9⟨rfl,fw9,h9,R1⟩;refine⟨fun h=>absurd (by simp) h,?_⟩;refine bm ?_;exact df func62 (.inr (.inl ⟨rfl,rfl⟩)) ⟨rfl,dK.late ((fy.tr bz).tr aS) (h8.wN h9 R1)⟩
 |ok q=>
  have R0:jL s f=f q.1 q.2:=by unfold jL;rw[hX]
  rw[hX]at sr pP qz;rw[R0];have e0:(yo (.ok q:Except bp (List aJ×List ST))).1=0:=rfl;refine aL ?_;refine au ?_;refine ai (.agg #[.slice av q.1.length aY,.slice ab q.2.length bh]) (bF [.slice av q.1.length aY,.slice ab q.2.length bh] rfl (pP.range (by rfl))) ?_;refine aj (rK (fst:=fst) (cap:=cap) rfl rfl rfl rfl hg ((H7 q.1 q.2 w6 _ F hX h6 fy (qz.keep Qm dd.stays) (dd.keep Qm)).mono ?_));rintro r w7⟨rfl,h7⟩;refine au ?_;exact bK func62 rfl ⟨rfl,dK.late fy h7⟩
end
end E
end Go.Proofs.YtoigoojdbpbhoagGreatDoor
