/- Texts BeS2 BeS3 BeS4 BeS5 CmD BeT CmK BeU BeV IdK IdJ LfK LfL LfE ParM PrtM PrtN PrtO TokF PrtQ ParS. -/
import Derived.Test.YtoigoojdbpbhoagGreatDoorJ03
import Derived.Test.YtoigoojdbpbhoagGreatDoorJ02
import Derived.Test.YtoigoojdbpbhoagGreatDoorJ00
namespace Go.Proofs.YtoigoojdbpbhoagGreatDoor
set_option maxRecDepth 20000
set_option maxHeartbeats 4000000
namespace E
open Go.Proofs.Tryz
theorem afW{w0 w:World}{b:Nat}{W:List Is}{inp:List Int}{cv iv:Value}{r:gh}{m k:Md}{p:Pr}(h:Bw w0 w b W inp cv iv r m k p)(hs:m.state=0){A B N:Int}(hx:W[m.next]?=some (4,A,B,N))(gS:W.length≤1000000)(aZ:m.stack.length≤1000)(_:m.cells.length≤1000)(h2:2≤m.stack.length)(q:Bool):aC prog 53 [.pointer (some ⟨b,0,none⟩),.bool q] w fun v w'=>v=.bool true∧mW w0 w w' b W inp cv iv r (bu inp (4,A,B,N) m p).1 k (bu inp (4,A,B,N) m p).2:=by
 obtain⟨sv,cl,ks,kc,ov⟩:=r;have hn:m.next<W.length:=(List.getElem?_eq_some_iff.1 hx).1;obtain⟨cb,cq,cA,cL,ik,dN⟩:=h.cd.ins.at hx;subst cL;refine aG 307 func53 ?_;refine lB h.bk ?_;refine aL ?_;refine au ?_;refine bC (fun w'=>ae [] w w') [] bE ?_;have hS:ae [] w w.drew:=(ae.refl _ _).drew;generalize w.drew=w1 at*;refine tk 0 ?_;refine tk 1 ?_;refine tk 2 ?_;refine aI 3 (.slice (some ⟨cb,cq,none⟩) W.length cA) rfl (fun w9 aq=>aB rfl ((aq.af h.bk (by simp)).cell rfl)) hS ?_;refine tk 4 ?_;refine tk 5 ?_;refine tk 6 ?_;refine tk 7 ?_;refine aI 8 (.int .i64 (m.next:Nat)) rfl (fun w9 aq=>aB rfl ((aq.af h.bk (by simp)).cell rfl)) hS ?_;refine bD 9 _ rfl (fun w=>bJ m.next rfl hn w) ?_;refine aI 10 (.agg (iC (4,A,B,N)).toArray) rfl (fun w9 aq=>bF (iC (4,A,B,N)) rfl (ft dN aq ik.2 (by simp))) hS ?_;refine a8 11 rfl (bO _ rfl pe ?_);intro w2 x5 gw cE an aX;refine⟨fun _=>hS.tr an,?_⟩;refine a8 12 rfl (aH (iC (4,A,B,N)) rfl pf aX (by simp[iC]) (nJ _) ?_);intro w3 cw aw aQ;rw[bs (by rfl)]at aQ;have bn:ae [] w w3:=hS.tr (an.aO aw (by omega));refine⟨fun _=>bn,?_⟩;refine bm ?_;have h3:=h.aA bn;have cD:x5∉dz b (.slice (some ⟨cb,cq,none⟩) W.length cA) ⟨sv,cl,ks,kc,ov⟩:=fun hm=>by
  have:=(h.own x5 hm).2;have:=hS.size;omega
 refine lB h3.bk ?_;refine nM ((m.next+1:Nat):Int) ?_;refine au ?_;refine aj (aH [.int .i64 ((m.next+1:Nat):Int)] rfl gC h3.bk (by simp[fg,mC]) (eK _) ?_);intro w4 cz ax a_;have t4:=h3.put (m':={m with next:=m.next+1}) (p':=p) ax a_ rfl rfl rfl;obtain⟨cy,fG⟩:=t4.af cD aQ;have t:=eZ.late bn t4;have h4:=t.1;have a_:=h4.bk;clear t4 cz ax aw cw aQ h3 aX an cE hS dN cD;refine lB cy ?_;refine aU ?_;refine oC (p7 h4 (by show 0<m.stack.length;omega) aZ (aR m.stack) rfl) ?_;rintro v w5⟨rfl,s',t5⟩;have lH:=t.seq t5;have h5:=lH.1;obtain⟨kL,rl⟩:=t5.af fG cy;have js:m.stack.dropLast.length≤1000:=by simp;omega
 have lk:m.stack.dropLast.dropLast.length≤1000:=by simp;omega
 refine oC (p7 h5 (by show 0<m.stack.dropLast.length;simp;omega) js (aR m.stack.dropLast) rfl) ?_;rintro v w6⟨rfl,s2,t6⟩;have oW:=lH.seq t6;have h6:=oW.1;obtain⟨im,uv⟩:=t6.af rl kL;clear a_ cy kL t5 t6 t lH;refine lB im ?_;refine aU ?_;refine ai _ (bP _ _ _ _ rfl (by rfl) _) ?_;refine oC (zr h6 lk (IntKind.i64.wrap (aR m.stack.dropLast+aR m.stack))) ?_;rintro v w7⟨rfl,s3,t7⟩;refine au ?_;have e:bu inp (4,A,B,N) m p=({m with next:=m.next+1,stack:=m.stack.dropLast.dropLast++[IntKind.i64.wrap (aR m.stack.dropLast+aR m.stack)]},p):=rfl;rw[e];exact ay func53 rfl ⟨rfl,_,oW.seq t7⟩
theorem afX{w0 w:World}{b:Nat}{W:List Is}{inp:List Int}{cv iv:Value}{r:gh}{m k:Md}{p:Pr}(h:Bw w0 w b W inp cv iv r m k p)(hs:m.state=0){A B N:Int}(hx:W[m.next]?=some (5,A,B,N))(gS:W.length≤1000000)(aZ:m.stack.length≤1000)(_:m.cells.length≤1000)(h2:2≤m.stack.length)(q:Bool):aC prog 53 [.pointer (some ⟨b,0,none⟩),.bool q] w fun v w'=>v=.bool true∧mW w0 w w' b W inp cv iv r (bu inp (5,A,B,N) m p).1 k (bu inp (5,A,B,N) m p).2:=by
 obtain⟨sv,cl,ks,kc,ov⟩:=r;have hn:m.next<W.length:=(List.getElem?_eq_some_iff.1 hx).1;obtain⟨cb,cq,cA,cL,ik,dN⟩:=h.cd.ins.at hx;subst cL;refine aG 307 func53 ?_;refine lB h.bk ?_;refine aL ?_;refine au ?_;refine bC (fun w'=>ae [] w w') [] bE ?_;have hS:ae [] w w.drew:=(ae.refl _ _).drew;generalize w.drew=w1 at*;refine tk 0 ?_;refine tk 1 ?_;refine tk 2 ?_;refine aI 3 (.slice (some ⟨cb,cq,none⟩) W.length cA) rfl (fun w9 aq=>aB rfl ((aq.af h.bk (by simp)).cell rfl)) hS ?_;refine tk 4 ?_;refine tk 5 ?_;refine tk 6 ?_;refine tk 7 ?_;refine aI 8 (.int .i64 (m.next:Nat)) rfl (fun w9 aq=>aB rfl ((aq.af h.bk (by simp)).cell rfl)) hS ?_;refine bD 9 _ rfl (fun w=>bJ m.next rfl hn w) ?_;refine aI 10 (.agg (iC (5,A,B,N)).toArray) rfl (fun w9 aq=>bF (iC (5,A,B,N)) rfl (ft dN aq ik.2 (by simp))) hS ?_;refine a8 11 rfl (bO _ rfl pe ?_);intro w2 x5 gw cE an aX;refine⟨fun _=>hS.tr an,?_⟩;refine a8 12 rfl (aH (iC (5,A,B,N)) rfl pf aX (by simp[iC]) (nJ _) ?_);intro w3 cw aw aQ;rw[bs (by rfl)]at aQ;have bn:ae [] w w3:=hS.tr (an.aO aw (by omega));refine⟨fun _=>bn,?_⟩;refine bm ?_;have h3:=h.aA bn;have cD:x5∉dz b (.slice (some ⟨cb,cq,none⟩) W.length cA) ⟨sv,cl,ks,kc,ov⟩:=fun hm=>by
  have:=(h.own x5 hm).2;have:=hS.size;omega
 refine lB h3.bk ?_;refine nM ((m.next+1:Nat):Int) ?_;refine au ?_;refine aj (aH [.int .i64 ((m.next+1:Nat):Int)] rfl gC h3.bk (by simp[fg,mC]) (eK _) ?_);intro w4 cz ax a_;have t4:=h3.put (m':={m with next:=m.next+1}) (p':=p) ax a_ rfl rfl rfl;obtain⟨cy,fG⟩:=t4.af cD aQ;have t:=eZ.late bn t4;have h4:=t.1;have a_:=h4.bk;clear t4 cz ax aw cw aQ h3 aX an cE hS dN cD;refine lB cy ?_;refine aU ?_;refine oC (p7 h4 (by show 0<m.stack.length;omega) aZ (aR m.stack) rfl) ?_;rintro v w5⟨rfl,s',t5⟩;have lH:=t.seq t5;have h5:=lH.1;obtain⟨kL,rl⟩:=t5.af fG cy;have js:m.stack.dropLast.length≤1000:=by simp;omega
 have lk:m.stack.dropLast.dropLast.length≤1000:=by simp;omega
 refine oC (p7 h5 (by show 0<m.stack.dropLast.length;simp;omega) js (aR m.stack.dropLast) rfl) ?_;rintro v w6⟨rfl,s2,t6⟩;have oW:=lH.seq t6;have h6:=oW.1;obtain⟨im,uv⟩:=t6.af rl kL;clear a_ cy kL t5 t6 t lH;refine lB im ?_;refine aU ?_;refine ai _ (bP _ _ _ _ rfl (by rfl) _) ?_;refine oC (zr h6 lk (IntKind.i64.wrap (aR m.stack.dropLast-aR m.stack))) ?_;rintro v w7⟨rfl,s3,t7⟩;refine au ?_;have e:bu inp (5,A,B,N) m p=({m with next:=m.next+1,stack:=m.stack.dropLast.dropLast++[IntKind.i64.wrap (aR m.stack.dropLast-aR m.stack)]},p):=rfl;rw[e];exact ay func53 rfl ⟨rfl,_,oW.seq t7⟩
theorem afY{w0 w:World}{b:Nat}{W:List Is}{inp:List Int}{cv iv:Value}{r:gh}{m k:Md}{p:Pr}(h:Bw w0 w b W inp cv iv r m k p)(hs:m.state=0){A B N:Int}(hx:W[m.next]?=some (6,A,B,N))(gS:W.length≤1000000)(aZ:m.stack.length≤1000)(_:m.cells.length≤1000)(h2:2≤m.stack.length)(q:Bool):aC prog 53 [.pointer (some ⟨b,0,none⟩),.bool q] w fun v w'=>v=.bool true∧mW w0 w w' b W inp cv iv r (bu inp (6,A,B,N) m p).1 k (bu inp (6,A,B,N) m p).2:=by
 obtain⟨sv,cl,ks,kc,ov⟩:=r;have hn:m.next<W.length:=(List.getElem?_eq_some_iff.1 hx).1;obtain⟨cb,cq,cA,cL,ik,dN⟩:=h.cd.ins.at hx;subst cL;refine aG 307 func53 ?_;refine lB h.bk ?_;refine aL ?_;refine au ?_;refine bC (fun w'=>ae [] w w') [] bE ?_;have hS:ae [] w w.drew:=(ae.refl _ _).drew;generalize w.drew=w1 at*;refine tk 0 ?_;refine tk 1 ?_;refine tk 2 ?_;refine aI 3 (.slice (some ⟨cb,cq,none⟩) W.length cA) rfl (fun w9 aq=>aB rfl ((aq.af h.bk (by simp)).cell rfl)) hS ?_;refine tk 4 ?_;refine tk 5 ?_;refine tk 6 ?_;refine tk 7 ?_;refine aI 8 (.int .i64 (m.next:Nat)) rfl (fun w9 aq=>aB rfl ((aq.af h.bk (by simp)).cell rfl)) hS ?_;refine bD 9 _ rfl (fun w=>bJ m.next rfl hn w) ?_;refine aI 10 (.agg (iC (6,A,B,N)).toArray) rfl (fun w9 aq=>bF (iC (6,A,B,N)) rfl (ft dN aq ik.2 (by simp))) hS ?_;refine a8 11 rfl (bO _ rfl pe ?_);intro w2 x5 gw cE an aX;refine⟨fun _=>hS.tr an,?_⟩;refine a8 12 rfl (aH (iC (6,A,B,N)) rfl pf aX (by simp[iC]) (nJ _) ?_);intro w3 cw aw aQ;rw[bs (by rfl)]at aQ;have bn:ae [] w w3:=hS.tr (an.aO aw (by omega));refine⟨fun _=>bn,?_⟩;refine bm ?_;have h3:=h.aA bn;have cD:x5∉dz b (.slice (some ⟨cb,cq,none⟩) W.length cA) ⟨sv,cl,ks,kc,ov⟩:=fun hm=>by
  have:=(h.own x5 hm).2;have:=hS.size;omega
 refine lB h3.bk ?_;refine nM ((m.next+1:Nat):Int) ?_;refine au ?_;refine aj (aH [.int .i64 ((m.next+1:Nat):Int)] rfl gC h3.bk (by simp[fg,mC]) (eK _) ?_);intro w4 cz ax a_;have t4:=h3.put (m':={m with next:=m.next+1}) (p':=p) ax a_ rfl rfl rfl;obtain⟨cy,fG⟩:=t4.af cD aQ;have t:=eZ.late bn t4;have h4:=t.1;have a_:=h4.bk;clear t4 cz ax aw cw aQ h3 aX an cE hS dN cD;refine lB cy ?_;refine aU ?_;refine oC (p7 h4 (by show 0<m.stack.length;omega) aZ (aR m.stack) rfl) ?_;rintro v w5⟨rfl,s',t5⟩;have lH:=t.seq t5;have h5:=lH.1;obtain⟨kL,rl⟩:=t5.af fG cy;have js:m.stack.dropLast.length≤1000:=by simp;omega
 have lk:m.stack.dropLast.dropLast.length≤1000:=by simp;omega
 refine oC (p7 h5 (by show 0<m.stack.dropLast.length;simp;omega) js (aR m.stack.dropLast) rfl) ?_;rintro v w6⟨rfl,s2,t6⟩;have oW:=lH.seq t6;have h6:=oW.1;obtain⟨im,uv⟩:=t6.af rl kL;clear a_ cy kL t5 t6 t lH;refine lB im ?_;refine aU ?_;refine ai _ (bP _ _ _ _ rfl (by rfl) _) ?_;refine oC (zr h6 lk (IntKind.i64.wrap (aR m.stack.dropLast*aR m.stack))) ?_;rintro v w7⟨rfl,s3,t7⟩;refine au ?_;have e:bu inp (6,A,B,N) m p=({m with next:=m.next+1,stack:=m.stack.dropLast.dropLast++[IntKind.i64.wrap (aR m.stack.dropLast*aR m.stack)]},p):=rfl;rw[e];exact ay func53 rfl ⟨rfl,_,oW.seq t7⟩
theorem aeI{w0 w:World}{b:Nat}{W:List Is}{inp:List Int}{cv iv:Value}{r:gh}{m k:Md}{p:Pr}(h:Bw w0 w b W inp cv iv r m k p)(hs:m.state=0){A B N:Int}(hx:W[m.next]?=some (7,A,B,N))(gS:W.length≤1000000)(aZ:m.stack.length≤1000)(_:m.cells.length≤1000)(h2:2≤m.stack.length)(q:Bool):aC prog 53 [.pointer (some ⟨b,0,none⟩),.bool q] w fun v w'=>v=.bool true∧mW w0 w w' b W inp cv iv r (bu inp (7,A,B,N) m p).1 k (bu inp (7,A,B,N) m p).2:=by
 obtain⟨sv,cl,ks,kc,ov⟩:=r;have hn:m.next<W.length:=(List.getElem?_eq_some_iff.1 hx).1;obtain⟨cb,cq,cA,cL,ik,dN⟩:=h.cd.ins.at hx;subst cL;refine aG 307 func53 ?_;refine lB h.bk ?_;refine aL ?_;refine au ?_;refine bC (fun w'=>ae [] w w') [] bE ?_;have hS:ae [] w w.drew:=(ae.refl _ _).drew;generalize w.drew=w1 at*;refine tk 0 ?_;refine tk 1 ?_;refine tk 2 ?_;refine aI 3 (.slice (some ⟨cb,cq,none⟩) W.length cA) rfl (fun w9 aq=>aB rfl ((aq.af h.bk (by simp)).cell rfl)) hS ?_;refine tk 4 ?_;refine tk 5 ?_;refine tk 6 ?_;refine tk 7 ?_;refine aI 8 (.int .i64 (m.next:Nat)) rfl (fun w9 aq=>aB rfl ((aq.af h.bk (by simp)).cell rfl)) hS ?_;refine bD 9 _ rfl (fun w=>bJ m.next rfl hn w) ?_;refine aI 10 (.agg (iC (7,A,B,N)).toArray) rfl (fun w9 aq=>bF (iC (7,A,B,N)) rfl (ft dN aq ik.2 (by simp))) hS ?_;refine a8 11 rfl (bO _ rfl pe ?_);intro w2 x5 gw cE an aX;refine⟨fun _=>hS.tr an,?_⟩;refine a8 12 rfl (aH (iC (7,A,B,N)) rfl pf aX (by simp[iC]) (nJ _) ?_);intro w3 cw aw aQ;rw[bs (by rfl)]at aQ;have bn:ae [] w w3:=hS.tr (an.aO aw (by omega));refine⟨fun _=>bn,?_⟩;refine bm ?_;have h3:=h.aA bn;have cD:x5∉dz b (.slice (some ⟨cb,cq,none⟩) W.length cA) ⟨sv,cl,ks,kc,ov⟩:=fun hm=>by
  have:=(h.own x5 hm).2;have:=hS.size;omega
 refine lB h3.bk ?_;refine nM ((m.next+1:Nat):Int) ?_;refine au ?_;refine aj (aH [.int .i64 ((m.next+1:Nat):Int)] rfl gC h3.bk (by simp[fg,mC]) (eK _) ?_);intro w4 cz ax a_;have t4:=h3.put (m':={m with next:=m.next+1}) (p':=p) ax a_ rfl rfl rfl;obtain⟨cy,fG⟩:=t4.af cD aQ;have t:=eZ.late bn t4;have h4:=t.1;have a_:=h4.bk;clear t4 cz ax aw cw aQ h3 aX an cE hS dN cD;refine lB cy ?_;refine aU ?_;refine oC (p7 h4 (by show 0<m.stack.length;omega) aZ (aR m.stack) rfl) ?_;rintro v w5⟨rfl,s',t5⟩;have lH:=t.seq t5;have h5:=lH.1;obtain⟨kL,rl⟩:=t5.af fG cy;have js:m.stack.dropLast.length≤1000:=by simp;omega
 have lk:m.stack.dropLast.dropLast.length≤1000:=by simp;omega
 refine oC (p7 h5 (by show 0<m.stack.dropLast.length;simp;omega) js (aR m.stack.dropLast) rfl) ?_;rintro v w6⟨rfl,s2,t6⟩;have oW:=lH.seq t6;have h6:=oW.1;obtain⟨im,uv⟩:=t6.af rl kL;clear a_ cy kL t5 t6 t lH;refine lB im ?_;refine aU ?_;refine ai _ (bP _ _ _ _ rfl (by rfl) _) ?_;refine oC (Wg (decide (aR m.stack.dropLast<aR m.stack)) w6) ?_;rintro v w6'⟨rfl,cC⟩;rw[cC];refine oC (zr h6 lk (sT (decide (aR m.stack.dropLast<aR m.stack)))) ?_;rintro v w7⟨rfl,s3,t7⟩;refine au ?_;have e:bu inp (7,A,B,N) m p=({m with next:=m.next+1,stack:=m.stack.dropLast.dropLast++[sT (decide (aR m.stack.dropLast<aR m.stack))]},p):=rfl;rw[e];exact ay func53 rfl ⟨rfl,_,oW.seq t7⟩
theorem aeJ{w0 w:World}{b:Nat}{W:List Is}{inp:List Int}{cv iv:Value}{r:gh}{m k:Md}{p:Pr}(h:Bw w0 w b W inp cv iv r m k p)(hs:m.state=0){A B N:Int}(hx:W[m.next]?=some (8,A,B,N))(gS:W.length≤1000000)(aZ:m.stack.length≤1000)(_:m.cells.length≤1000)(h2:2≤m.stack.length)(q:Bool):aC prog 53 [.pointer (some ⟨b,0,none⟩),.bool q] w fun v w'=>v=.bool true∧mW w0 w w' b W inp cv iv r (bu inp (8,A,B,N) m p).1 k (bu inp (8,A,B,N) m p).2:=by
 obtain⟨sv,cl,ks,kc,ov⟩:=r;have hn:m.next<W.length:=(List.getElem?_eq_some_iff.1 hx).1;obtain⟨cb,cq,cA,cL,ik,dN⟩:=h.cd.ins.at hx;subst cL;refine aG 307 func53 ?_;refine lB h.bk ?_;refine aL ?_;refine au ?_;refine bC (fun w'=>ae [] w w') [] bE ?_;have hS:ae [] w w.drew:=(ae.refl _ _).drew;generalize w.drew=w1 at*;refine tk 0 ?_;refine tk 1 ?_;refine tk 2 ?_;refine aI 3 (.slice (some ⟨cb,cq,none⟩) W.length cA) rfl (fun w9 aq=>aB rfl ((aq.af h.bk (by simp)).cell rfl)) hS ?_;refine tk 4 ?_;refine tk 5 ?_;refine tk 6 ?_;refine tk 7 ?_;refine aI 8 (.int .i64 (m.next:Nat)) rfl (fun w9 aq=>aB rfl ((aq.af h.bk (by simp)).cell rfl)) hS ?_;refine bD 9 _ rfl (fun w=>bJ m.next rfl hn w) ?_;refine aI 10 (.agg (iC (8,A,B,N)).toArray) rfl (fun w9 aq=>bF (iC (8,A,B,N)) rfl (ft dN aq ik.2 (by simp))) hS ?_;refine a8 11 rfl (bO _ rfl pe ?_);intro w2 x5 gw cE an aX;refine⟨fun _=>hS.tr an,?_⟩;refine a8 12 rfl (aH (iC (8,A,B,N)) rfl pf aX (by simp[iC]) (nJ _) ?_);intro w3 cw aw aQ;rw[bs (by rfl)]at aQ;have bn:ae [] w w3:=hS.tr (an.aO aw (by omega));refine⟨fun _=>bn,?_⟩;refine bm ?_;have h3:=h.aA bn;have cD:x5∉dz b (.slice (some ⟨cb,cq,none⟩) W.length cA) ⟨sv,cl,ks,kc,ov⟩:=fun hm=>by
  have:=(h.own x5 hm).2;have:=hS.size;omega
 refine lB h3.bk ?_;refine nM ((m.next+1:Nat):Int) ?_;refine au ?_;refine aj (aH [.int .i64 ((m.next+1:Nat):Int)] rfl gC h3.bk (by simp[fg,mC]) (eK _) ?_);intro w4 cz ax a_;have t4:=h3.put (m':={m with next:=m.next+1}) (p':=p) ax a_ rfl rfl rfl;obtain⟨cy,fG⟩:=t4.af cD aQ;have t:=eZ.late bn t4;have h4:=t.1;have a_:=h4.bk;clear t4 cz ax aw cw aQ h3 aX an cE hS dN cD;refine lB cy ?_;refine aU ?_;refine oC (p7 h4 (by show 0<m.stack.length;omega) aZ (aR m.stack) rfl) ?_;rintro v w5⟨rfl,s',t5⟩;have lH:=t.seq t5;have h5:=lH.1;obtain⟨kL,rl⟩:=t5.af fG cy;have js:m.stack.dropLast.length≤1000:=by simp;omega
 have lk:m.stack.dropLast.dropLast.length≤1000:=by simp;omega
 refine oC (p7 h5 (by show 0<m.stack.dropLast.length;simp;omega) js (aR m.stack.dropLast) rfl) ?_;rintro v w6⟨rfl,s2,t6⟩;have oW:=lH.seq t6;have h6:=oW.1;obtain⟨im,uv⟩:=t6.af rl kL;clear a_ cy kL t5 t6 t lH;refine lB im ?_;refine aU ?_;refine ai _ (bP _ _ _ _ rfl (by rfl) _) ?_;refine oC (Wg (aR m.stack.dropLast==aR m.stack) w6) ?_;rintro v w6'⟨rfl,cC⟩;rw[cC];refine oC (zr h6 lk (sT (aR m.stack.dropLast==aR m.stack))) ?_;rintro v w7⟨rfl,s3,t7⟩;refine au ?_;have e:bu inp (8,A,B,N) m p=({m with next:=m.next+1,stack:=m.stack.dropLast.dropLast++[sT (aR m.stack.dropLast==aR m.stack)]},p):=rfl;rw[e];exact ay func53 rfl ⟨rfl,_,oW.seq t7⟩
theorem afZ{w0 w:World}{b:Nat}{W:List Is}{inp:List Int}{cv iv:Value}{r:gh}{m k:Md}{p:Pr}(h:Bw w0 w b W inp cv iv r m k p)(hs:m.state=0){A B N:Int}(hx:W[m.next]?=some (9,A,B,N))(gS:W.length≤1000000)(aZ:m.stack.length≤1000)(_:m.cells.length≤1000)(h1:1≤m.stack.length)(yP:0≤A)(hA:A<(m.cells.length:Int))(q:Bool):aC prog 53 [.pointer (some ⟨b,0,none⟩),.bool q] w fun v w'=>v=.bool true∧mW w0 w w' b W inp cv iv r (bu inp (9,A,B,N) m p).1 k (bu inp (9,A,B,N) m p).2:=by
 obtain⟨a,rfl⟩:∃a:Nat,A=(a:Nat):=⟨A.toNat,by omega⟩;obtain⟨sv,cl,ks,kc,ov⟩:=r;have hn:m.next<W.length:=(List.getElem?_eq_some_iff.1 hx).1;obtain⟨cb,cq,cA,cL,ik,dN⟩:=h.cd.ins.at hx;subst cL;refine aG 307 func53 ?_;refine lB h.bk ?_;refine aL ?_;refine au ?_;refine bC (fun w'=>ae [] w w') [] bE ?_;have hS:ae [] w w.drew:=(ae.refl _ _).drew;generalize w.drew=w1 at*;refine tk 0 ?_;refine tk 1 ?_;refine tk 2 ?_;refine aI 3 (.slice (some ⟨cb,cq,none⟩) W.length cA) rfl (fun w9 aq=>aB rfl ((aq.af h.bk (by simp)).cell rfl)) hS ?_;refine tk 4 ?_;refine tk 5 ?_;refine tk 6 ?_;refine tk 7 ?_;refine aI 8 (.int .i64 (m.next:Nat)) rfl (fun w9 aq=>aB rfl ((aq.af h.bk (by simp)).cell rfl)) hS ?_;refine bD 9 _ rfl (fun w=>bJ m.next rfl hn w) ?_;refine aI 10 (.agg (iC (9,((a:Nat):Int),B,N)).toArray) rfl (fun w9 aq=>bF (iC (9,((a:Nat):Int),B,N)) rfl (ft dN aq ik.2 (by simp))) hS ?_;refine a8 11 rfl (bO _ rfl pe ?_);intro w2 x5 gw cE an aX;refine⟨fun _=>hS.tr an,?_⟩;refine a8 12 rfl (aH (iC (9,((a:Nat):Int),B,N)) rfl pf aX (by simp[iC]) (nJ _) ?_);intro w3 cw aw aQ;rw[bs (by rfl)]at aQ;have bn:ae [] w w3:=hS.tr (an.aO aw (by omega));refine⟨fun _=>bn,?_⟩;refine bm ?_;have h3:=h.aA bn;have cD:x5∉dz b (.slice (some ⟨cb,cq,none⟩) W.length cA) ⟨sv,cl,ks,kc,ov⟩:=fun hm=>by
  have:=(h.own x5 hm).2;have:=hS.size;omega
 refine lB h3.bk ?_;refine nM ((m.next+1:Nat):Int) ?_;refine au ?_;refine aj (aH [.int .i64 ((m.next+1:Nat):Int)] rfl gC h3.bk (by simp[fg,mC]) (eK _) ?_);intro w4 cz ax a_;have t4:=h3.put (m':={m with next:=m.next+1}) (p':=p) ax a_ rfl rfl rfl;obtain⟨cy,fG⟩:=t4.af cD aQ;have t:=eZ.late bn t4;have h4:=t.1;have a_:=h4.bk;clear t4 cz ax aw cw aQ h3 aX an cE hS dN cD;refine lB cy ?_;refine aU ?_;have oV:a<m.cells.length:=by omega
 obtain⟨g,sU,n8,_,_⟩:=h4.rc.Cs (A3 oV);simp only at n8;subst n8;refine bC (fun w'=>w'.cell? ⟨b,7,none⟩=some (.slice (some ⟨g,0,none⟩) m.cells.length sU)∧w'.cell? ⟨x5,1,none⟩=some (.int .i64 (a:Nat))) [10] bE ?_;have hS:w4.drew.cell? ⟨b,7,none⟩=some (.slice (some ⟨g,0,none⟩) m.cells.length sU)∧w4.drew.cell? ⟨x5,1,none⟩=some (.int .i64 (a:Nat)):=⟨a_.drew.cell rfl,cy.drew.cell rfl⟩;have bz:ae [] w4 w4.drew:=(ae.refl _ _).drew;generalize w4.drew=w5 at*;have t5:=t.aA bz;have h5:=t5.1;refine tk 0 ?_;refine tk 1 ?_;refine tk 2 ?_;refine tk 3 ?_;refine aI 4 (.slice (some ⟨g,0,none⟩) m.cells.length sU) rfl (fun w9 aq=>aB rfl aq.1) hS ?_;refine tk 5 ?_;refine aI 6 (.int .i64 (a:Nat)) rfl (fun w9 aq=>aB rfl aq.2) hS ?_;refine tk 7 ?_;refine dC 8 (p7 h5 (by show 0<m.stack.length;omega) aZ (aR m.stack) rfl) ?_;rintro v w6⟨rfl,s',t6⟩;have im:=(t6.af fG (bz.af cy (by simp))).1;have h6:=t6.1;refine⟨fun _=>⟨h6.bk.cell rfl,im.cell rfl⟩,?_⟩;refine bD 9 _ rfl (fun w=>bJ a rfl oV w) ?_;rw[Nat.zero_add,Nat.mul_one];obtain⟨cur,qk,ZN,GU⟩:=h6.rc.set oV rfl;refine a8 10 rfl (aH [.int .i64 (aR m.stack)] rfl N6 qk (by simp;omega) (eK _) ?_);intro w7 jr aN eC;rw[Nat.zero_add]at eC;refine⟨fun h=>absurd (by simp) h,?_⟩;refine bm ?_;have t7:=h6.P7 (by simpa[aW,Value.ownBlock]using aN) (GU eC);refine au ?_;have e:bu inp (9,((a:Nat):Int),B,N) m p=({m with next:=m.next+1,stack:=m.stack.dropLast,cells:=m.cells.set a (aR m.stack)},p):=rfl;rw[e];exact ay func53 rfl ⟨rfl,_,(t5.seq t6).seq t7⟩
theorem af0{w0 w:World}{b:Nat}{W:List Is}{inp:List Int}{cv iv:Value}{r:gh}{m k:Md}{p:Pr}(h:Bw w0 w b W inp cv iv r m k p)(hs:m.state=0){A B N:Int}(hx:W[m.next]?=some (10,A,B,N))(gS:W.length≤1000000)(aZ:m.stack.length≤1000)(ek:m.cells.length≤1000)(h2:2≤m.stack.length)(yP:0≤A)(Rx:A+B≤(m.cells.length:Int))(q:Bool):aC prog 53 [.pointer (some ⟨b,0,none⟩),.bool q] w fun v w'=>v=.bool true∧mW w0 w w' b W inp cv iv r (bu inp (10,A,B,N) m p).1 k (bu inp (10,A,B,N) m p).2:=by
 obtain⟨a,rfl⟩:∃a:Nat,A=(a:Nat):=⟨A.toNat,by omega⟩;obtain⟨sv,cl,ks,kc,ov⟩:=r;have hn:m.next<W.length:=(List.getElem?_eq_some_iff.1 hx).1;obtain⟨cb,cq,cA,cL,ik,dN⟩:=h.cd.ins.at hx;subst cL;refine aG 307 func53 ?_;refine lB h.bk ?_;refine aL ?_;refine au ?_;refine bC (fun w'=>ae [] w w') [] bE ?_;have hS:ae [] w w.drew:=(ae.refl _ _).drew;generalize w.drew=w1 at*;refine tk 0 ?_;refine tk 1 ?_;refine tk 2 ?_;refine aI 3 (.slice (some ⟨cb,cq,none⟩) W.length cA) rfl (fun w9 aq=>aB rfl ((aq.af h.bk (by simp)).cell rfl)) hS ?_;refine tk 4 ?_;refine tk 5 ?_;refine tk 6 ?_;refine tk 7 ?_;refine aI 8 (.int .i64 (m.next:Nat)) rfl (fun w9 aq=>aB rfl ((aq.af h.bk (by simp)).cell rfl)) hS ?_;refine bD 9 _ rfl (fun w=>bJ m.next rfl hn w) ?_;refine aI 10 (.agg (iC (10,((a:Nat):Int),B,N)).toArray) rfl (fun w9 aq=>bF (iC (10,((a:Nat):Int),B,N)) rfl (ft dN aq ik.2 (by simp))) hS ?_;refine a8 11 rfl (bO _ rfl pe ?_);intro w2 x5 gw cE an aX;refine⟨fun _=>hS.tr an,?_⟩;refine a8 12 rfl (aH (iC (10,((a:Nat):Int),B,N)) rfl pf aX (by simp[iC]) (nJ _) ?_);intro w3 cw aw aQ;rw[bs (by rfl)]at aQ;have bn:ae [] w w3:=hS.tr (an.aO aw (by omega));refine⟨fun _=>bn,?_⟩;refine bm ?_;have h3:=h.aA bn;have cD:x5∉dz b (.slice (some ⟨cb,cq,none⟩) W.length cA) ⟨sv,cl,ks,kc,ov⟩:=fun hm=>by
  have:=(h.own x5 hm).2;have:=hS.size;omega
 refine lB h3.bk ?_;refine nM ((m.next+1:Nat):Int) ?_;refine au ?_;refine aj (aH [.int .i64 ((m.next+1:Nat):Int)] rfl gC h3.bk (by simp[fg,mC]) (eK _) ?_);intro w4 cz ax a_;have t4:=h3.put (m':={m with next:=m.next+1}) (p':=p) ax a_ rfl rfl rfl;obtain⟨cy,fG⟩:=t4.af cD aQ;have t:=eZ.late bn t4;have h4:=t.1;have a_:=h4.bk;clear t4 cz ax aw cw aQ h3 aX an cE hS dN cD;refine lB cy ?_;refine aU ?_;refine oC (p7 h4 (by show 0<m.stack.length;omega) aZ (aR m.stack) rfl) ?_;rintro v w5⟨rfl,s',t5⟩;have lH:=t.seq t5;have h5:=lH.1;obtain⟨kL,rl⟩:=t5.af fG cy;have js:m.stack.dropLast.length≤1000:=by simp;omega
 refine oC (p7 h5 (by show 0<m.stack.dropLast.length;simp;omega) js (aR m.stack.dropLast) rfl) ?_;rintro v w6⟨rfl,s2,t6⟩;have tt:=lH.seq t6;have h6:=tt.1;obtain⟨im,uv⟩:=t6.af rl kL;have dM:=h6.bk;clear a_ cy kL t5 t6 t lH;refine au ?_;by_cases hr:0≤aR m.stack.dropLast∧aR m.stack.dropLast<B
 ·obtain⟨kk,jQ⟩:∃kk:Nat,aR m.stack.dropLast=(kk:Nat):=⟨(aR m.stack.dropLast).toNat,by omega⟩;have e:bu inp (10,((a:Nat):Int),B,N) m p=({m with next:=m.next+1,stack:=m.stack.dropLast.dropLast,cells:=m.cells.set (a+kk) (aR m.stack)},p):=by
   show(if 0≤aR m.stack.dropLast∧aR m.stack.dropLast<B then _ else _)=_;rw[if_pos hr,jQ];rfl
  rw[e];rw[jQ]at hr⊢;have oV:a+kk<m.cells.length:=by omega
  obtain⟨g,sU,n8,_,_⟩:=h6.rc.Cs (A3 oV);simp only at n8;subst n8;refine aL ?_;refine lB im ?_;refine aL ?_;refine au ?_;refine bC (fun w'=>ae [] w6 w') [11] bE ?_;have hS:ae [] w6 w6.drew:=(ae.refl _ _).drew;generalize w6.drew=w7 at*;refine tk 0 ?_;refine tk 1 ?_;refine tk 2 ?_;refine tk 3 ?_;refine aI 4 (.slice (some ⟨g,0,none⟩) m.cells.length sU) rfl (fun w9 aq=>aB rfl ((aq.af dM (by simp)).cell rfl)) hS ?_;refine tk 5 ?_;refine aI 6 (.int .i64 (a:Nat)) rfl (fun w9 aq=>aB rfl ((aq.af im (by simp)).cell rfl)) hS ?_;refine tk 7 ?_;refine uT 8 (((a+kk:Nat):Int)) rfl (by decide+kernel) rfl rfl rfl rfl rfl (by simp only[kK];omega) ?_;refine tk 9 ?_;refine bD 10 _ rfl (fun w=>bJ (a+kk) rfl oV w) ?_;rw[Nat.zero_add,Nat.mul_one];have h7:=h6.aA hS;obtain⟨cur,qk,ZN,GU⟩:=h7.rc.set oV rfl;refine a8 11 rfl (aH [.int .i64 (aR m.stack)] rfl N6 qk (by simp;omega) (eK _) ?_);intro w8 jP aS cB;rw[Nat.zero_add]at cB;refine⟨fun h=>absurd (by simp) h,?_⟩;refine bm ?_;have t8:=h7.P7 (by simpa[aW,Value.ownBlock]using aS) (GU cB);refine au ?_;exact ay func53 rfl ⟨rfl,_,(tt.aA hS).seq t8⟩
 ·have e:bu inp (10,((a:Nat):Int),B,N) m p=({m with next:=m.next+1,stack:=m.stack.dropLast.dropLast,state:=13},p):=by
   show(if 0≤aR m.stack.dropLast∧aR m.stack.dropLast<B then _ else _)=_;rw[if_neg hr]
  rw[e];by_cases K3:aR m.stack.dropLast<0
  ·refine ye ?_;refine au ?_;refine aj (aH [.int .i64 13] rfl gC dM (by simp[fg,mC]) (eK _) ?_);intro wz bw kT kU;have tz:=h6.put (m':={m with next:=m.next+1,stack:=m.stack.dropLast.dropLast,state:=13}) (p':=p) kT kU rfl rfl rfl;refine au ?_;exact ay func53 rfl ⟨rfl,_,tt.seq tz⟩
  ·refine aL ?_;refine lB im ?_;refine ye ?_;refine au ?_;refine aj (aH [.int .i64 13] rfl gC dM (by simp[fg,mC]) (eK _) ?_);intro wz bw kT kU;have tz:=h6.put (m':={m with next:=m.next+1,stack:=m.stack.dropLast.dropLast,state:=13}) (p':=p) kT kU rfl rfl rfl;refine au ?_;exact ay func53 rfl ⟨rfl,_,tt.seq tz⟩
theorem ahw:dH prog 4 1=true:=by kernel_rfl
theorem adY{w0 w:World}{b:Nat}{W:List Is}{inp:List Int}{cv iv:Value}{r:gh}{m k:Md}{p:Pr}(h:Bw w0 w b W inp cv iv r m k p)(hs:m.state=0){A B N:Int}(hx:W[m.next]?=some (11,A,B,N))(gS:W.length≤1000000)(aZ:m.stack.length≤1000)(_:m.cells.length≤1000)(h1:1≤m.stack.length)(hou:m.out≤p.1.length)(EM:p.1.length≤500000)(q:Bool):aC prog 53 [.pointer (some ⟨b,0,none⟩),.bool q] w fun v w'=>v=.bool true∧mW w0 w w' b W inp cv iv r (bu inp (11,A,B,N) m p).1 k (bu inp (11,A,B,N) m p).2:=by
 obtain⟨sv,cl,ks,kc,ov⟩:=r;have hn:m.next<W.length:=(List.getElem?_eq_some_iff.1 hx).1;obtain⟨cb,cq,cA,cL,ik,dN⟩:=h.cd.ins.at hx;subst cL;refine aG 307 func53 ?_;refine lB h.bk ?_;refine aL ?_;refine au ?_;refine bC (fun w'=>ae [] w w') [] bE ?_;have hS:ae [] w w.drew:=(ae.refl _ _).drew;generalize w.drew=w1 at*;refine tk 0 ?_;refine tk 1 ?_;refine tk 2 ?_;refine aI 3 (.slice (some ⟨cb,cq,none⟩) W.length cA) rfl (fun w9 aq=>aB rfl ((aq.af h.bk (by simp)).cell rfl)) hS ?_;refine tk 4 ?_;refine tk 5 ?_;refine tk 6 ?_;refine tk 7 ?_;refine aI 8 (.int .i64 (m.next:Nat)) rfl (fun w9 aq=>aB rfl ((aq.af h.bk (by simp)).cell rfl)) hS ?_;refine bD 9 _ rfl (fun w=>bJ m.next rfl hn w) ?_;refine aI 10 (.agg (iC (11,A,B,N)).toArray) rfl (fun w9 aq=>bF (iC (11,A,B,N)) rfl (ft dN aq ik.2 (by simp))) hS ?_;refine a8 11 rfl (bO _ rfl pe ?_);intro w2 x5 gw cE an aX;refine⟨fun _=>hS.tr an,?_⟩;refine a8 12 rfl (aH (iC (11,A,B,N)) rfl pf aX (by simp[iC]) (nJ _) ?_);intro w3 cw aw aQ;rw[bs (by rfl)]at aQ;have bn:ae [] w w3:=hS.tr (an.aO aw (by omega));refine⟨fun _=>bn,?_⟩;refine bm ?_;have h3:=h.aA bn;have cD:x5∉dz b (.slice (some ⟨cb,cq,none⟩) W.length cA) ⟨sv,cl,ks,kc,ov⟩:=fun hm=>by
  have:=(h.own x5 hm).2;have:=hS.size;omega
 refine lB h3.bk ?_;refine nM ((m.next+1:Nat):Int) ?_;refine au ?_;refine aj (aH [.int .i64 ((m.next+1:Nat):Int)] rfl gC h3.bk (by simp[fg,mC]) (eK _) ?_);intro w4 cz ax a_;have t4:=h3.put (m':={m with next:=m.next+1}) (p':=p) ax a_ rfl rfl rfl;obtain⟨cy,fG⟩:=t4.af cD aQ;have t:=eZ.late bn t4;have h4:=t.1;have a_:=h4.bk;clear t4 cz ax aw cw aQ h3 aX an cE hS dN cD;refine lB cy ?_;refine aU ?_;refine oC (p7 h4 (by show 0<m.stack.length;omega) aZ (aR m.stack) rfl) ?_;rintro v w5⟨rfl,s',t5⟩;have tt:=t.seq t5;have h5:=tt.1;have cr:=h5.bk;clear a_ cy t5 t;obtain⟨oa,sV,oX⟩:=h5.ro.form;simp only at oX;subst oX;refine au ?_;refine bC (fun w'=>ae [] w5 w') [] bE ?_;have hS:ae [] w5 w5.drew:=(ae.refl _ _).drew;generalize w5.drew=w6 at*;refine tk 0 ?_;refine tk 1 ?_;refine tk 2 ?_;refine tk 3 ?_;refine aI 4 (.int .i64 (m.out:Nat)) rfl (fun w9 aq=>aB rfl ((aq.af cr (by simp)).cell rfl)) hS ?_;refine tk 5 ?_;refine tk 6 ?_;refine tk 7 ?_;refine aI 8 (.slice oa p.1.length sV) rfl (fun w9 aq=>aB rfl ((aq.af cr (by simp)).cell rfl)) hS ?_;refine tk 9 ?_;have oW:=tt.aA hS;have h6:=oW.1;have dM:=h6.bk;by_cases tw:m.out=p.1.length
 ·refine yN 10 ?_;refine bm ?_;refine lB dM ?_;refine au ?_;refine aj (eE dA [.int .i64 (aR m.stack)] rfl rfl (F3 _) ?_);intro w7 g7 L0 jr aN eC;have h7:=h6.aA aN;refine aj (ja w0.heap.size dA 1 8 (dZ p.1) [.int .i64 (aR m.stack)] rfl rfl rfl yj h7.ro (eC.range rfl) rfl (nL rfl) (by decide) (by unfold maxLen;omega) (by omega) h7.kp.size ?_);intro g8 BZ w8 mR mQ;have mS:bl w8 w0.heap.size (.slice (some ⟨g8,0,none⟩) (p.1.length+1) BZ) (p.1++[aR m.stack]):=by
   have e1:(p.1++[aR m.stack]).length=p.1.length+1:=by simp
   have e2:dZ (p.1++[aR m.stack])=dZ p.1++[.int .i64 (aR m.stack)]:=by rw[Ge];rfl
   unfold bl;rw[e1,e2];exact mR
  have aS:ae (aW (.slice oa p.1.length sV)) w7 w8:=by
   rcases mQ with⟨h3,_,h4⟩|⟨_,h4,_⟩
   ·rw[aW,h3];exact h4
   ·exact h4.bG
  have fW:∀x∈aW (.slice (some ⟨g8,0,none⟩) (p.1.length+1) BZ),x∈aW (.slice oa p.1.length sV)∨w7.heap.size≤x:=fun x hx=>by
   have hx:x=g8:=by simpa[aW,Value.ownBlock]using hx
   subst hx;rcases mQ with⟨h3,_,_⟩|⟨h3,_,_⟩
   ·exact .inl (iM.2 h3)
   ·exact .inr (by omega)
  refine au ?_;refine aj (aH [.slice (some ⟨g8,0,none⟩) (p.1.length+1) BZ] rfl Bj (aS.af h7.bk fun hm=>h7.ro.ne h7.bk lA b hm (by simp)) (by simp[fg,mC]) (nL rfl) ?_);intro w9 n_ bg lX;have t9:=h7.amD (p':=(p.1++[aR m.stack],p.2)) aS mS fW bg lX;have tt9:=(oW.aA aN).seq t9;have h9:=tt9.1;have jt:=h9.bk;refine lB jt ?_;refine nM ((m.out+1:Nat):Int) ?_;refine au ?_;refine aj (aH [.int .i64 ((m.out+1:Nat):Int)] rfl gC jt (by simp[fg,mC]) (eK _) ?_);intro wz bw kT kU;have tz:=h9.put (m':={m with next:=m.next+1,stack:=m.stack.dropLast,out:=m.out+1}) (p':=(p.1++[aR m.stack],p.2)) kT kU rfl rfl rfl;refine au ?_;have e:bu inp (11,A,B,N) m p=({m with next:=m.next+1,stack:=m.stack.dropLast,out:=m.out+1},(p.1++[aR m.stack],p.2)):=by
   show(_,ko p m.out (aR m.stack))=_;unfold ko;rw[if_pos tw]
  rw[e];exact ay func53 rfl ⟨rfl,_,tt9.seq tz⟩
 ·refine yO 10 ?_;refine bm ?_;have HN:m.out<p.1.length:=by omega
  have Ry:p.1[m.out]?=some p.1[m.out]:=List.getElem?_eq_getElem HN;obtain⟨g,sU,n8,pM,Aj⟩:=h6.ro.Cs Ry;simp only at n8;cases n8;refine au ?_;refine bC (fun w'=>ae [] w6 w') [] bE ?_;have iU:ae [] w6 w6.drew:=(ae.refl _ _).drew;generalize w6.drew=w7 at*;refine tk 0 ?_;refine tk 1 ?_;refine tk 2 ?_;refine aI 3 (.slice (some ⟨g,0,none⟩) p.1.length sV) rfl (fun w9 aq=>aB rfl ((aq.af dM (by simp)).cell rfl)) iU ?_;refine tk 4 ?_;refine tk 5 ?_;refine tk 6 ?_;refine tk 7 ?_;refine aI 8 (.int .i64 (m.out:Nat)) rfl (fun w9 aq=>aB rfl ((aq.af dM (by simp)).cell rfl)) iU ?_;refine bD 9 _ rfl (fun w=>bJ m.out rfl HN w) ?_;refine aI 10 (.int .i64 p.1[m.out]) rfl (fun w9 aq=>aB rfl (by have:=ft Aj aq pM (by simp) 0 _ rfl;simpa using this)) iU ?_;refine tk 11 ?_;have EN:=oW.aA iU;have h7:=EN.1;have eC:=h7.bk;by_cases BI:p.1[m.out]=aR m.stack
  ·refine yO 12 ?_;refine bm ?_;refine lB eC ?_;refine nM ((m.out+1:Nat):Int) ?_;refine au ?_;refine aj (aH [.int .i64 ((m.out+1:Nat):Int)] rfl gC eC (by simp[fg,mC]) (eK _) ?_);intro wz bw kT kU;have tz:=h7.put (m':={m with next:=m.next+1,stack:=m.stack.dropLast,out:=m.out+1}) (p':=p) kT kU rfl rfl rfl;refine au ?_;have e:bu inp (11,A,B,N) m p=({m with next:=m.next+1,stack:=m.stack.dropLast,out:=m.out+1},p):=by
    show(_,ko p m.out (aR m.stack))=_;unfold ko;rw[if_neg tw,if_pos (by rw[Ry,BI])]
   rw[e];exact ay func53 rfl ⟨rfl,_,EN.seq tz⟩
  ·refine yN 12 ?_;refine bm ?_;refine au ?_;refine aj (aH [.bool true] rfl ahw eC (by simp[fg,mC]) (nL rfl) ?_);intro w8 jP aS cB;have t8:=h7.put (m':={m with next:=m.next+1,stack:=m.stack.dropLast}) (p':=(p.1,true)) aS cB rfl rfl rfl;have tt8:=EN.seq t8;have h8:=tt8.1;have jt:=h8.bk;refine lB jt ?_;refine nM ((m.out+1:Nat):Int) ?_;refine au ?_;refine aj (aH [.int .i64 ((m.out+1:Nat):Int)] rfl gC jt (by simp[fg,mC]) (eK _) ?_);intro wz bw kT kU;have tz:=h8.put (m':={m with next:=m.next+1,stack:=m.stack.dropLast,out:=m.out+1}) (p':=(p.1,true)) kT kU rfl rfl rfl;refine au ?_;have e:bu inp (11,A,B,N) m p=({m with next:=m.next+1,stack:=m.stack.dropLast,out:=m.out+1},(p.1,true)):=by
    show(_,ko p m.out (aR m.stack))=_;unfold ko;rw[if_neg tw,if_neg (by rw[Ry];intro hh;exact BI (Option.some.inj hh))]
   rw[e];exact ay func53 rfl ⟨rfl,_,tt8.seq tz⟩
theorem aeK{w0 w:World}{b:Nat}{W:List Is}{inp:List Int}{cv iv:Value}{r:gh}{m k:Md}{p:Pr}(h:Bw w0 w b W inp cv iv r m k p)(hs:m.state=0){A B N:Int}(hx:W[m.next]?=some (12,A,B,N))(gS:W.length≤1000000)(_:m.stack.length≤1000)(_:m.cells.length≤1000)(yP:0≤A)(hA:A<(m.cells.length:Int))(fF:inp.length≤100000)(Ak:m.read≤1000000)(q:Bool):aC prog 53 [.pointer (some ⟨b,0,none⟩),.bool q] w fun v w'=>v=.bool true∧mW w0 w w' b W inp cv iv r (bu inp (12,A,B,N) m p).1 k (bu inp (12,A,B,N) m p).2:=by
 obtain⟨a,rfl⟩:∃a:Nat,A=(a:Nat):=⟨A.toNat,by omega⟩;obtain⟨sv,cl,ks,kc,ov⟩:=r;have hn:m.next<W.length:=(List.getElem?_eq_some_iff.1 hx).1;obtain⟨cb,cq,cA,cL,ik,dN⟩:=h.cd.ins.at hx;subst cL;refine aG 307 func53 ?_;refine lB h.bk ?_;refine aL ?_;refine au ?_;refine bC (fun w'=>ae [] w w') [] bE ?_;have hS:ae [] w w.drew:=(ae.refl _ _).drew;generalize w.drew=w1 at*;refine tk 0 ?_;refine tk 1 ?_;refine tk 2 ?_;refine aI 3 (.slice (some ⟨cb,cq,none⟩) W.length cA) rfl (fun w9 aq=>aB rfl ((aq.af h.bk (by simp)).cell rfl)) hS ?_;refine tk 4 ?_;refine tk 5 ?_;refine tk 6 ?_;refine tk 7 ?_;refine aI 8 (.int .i64 (m.next:Nat)) rfl (fun w9 aq=>aB rfl ((aq.af h.bk (by simp)).cell rfl)) hS ?_;refine bD 9 _ rfl (fun w=>bJ m.next rfl hn w) ?_;refine aI 10 (.agg (iC (12,((a:Nat):Int),B,N)).toArray) rfl (fun w9 aq=>bF (iC (12,((a:Nat):Int),B,N)) rfl (ft dN aq ik.2 (by simp))) hS ?_;refine a8 11 rfl (bO _ rfl pe ?_);intro w2 x5 gw cE an aX;refine⟨fun _=>hS.tr an,?_⟩;refine a8 12 rfl (aH (iC (12,((a:Nat):Int),B,N)) rfl pf aX (by simp[iC]) (nJ _) ?_);intro w3 cw aw aQ;rw[bs (by rfl)]at aQ;have bn:ae [] w w3:=hS.tr (an.aO aw (by omega));refine⟨fun _=>bn,?_⟩;refine bm ?_;have h3:=h.aA bn;have cD:x5∉dz b (.slice (some ⟨cb,cq,none⟩) W.length cA) ⟨sv,cl,ks,kc,ov⟩:=fun hm=>by
  have:=(h.own x5 hm).2;have:=hS.size;omega
 refine lB h3.bk ?_;refine nM ((m.next+1:Nat):Int) ?_;refine au ?_;refine aj (aH [.int .i64 ((m.next+1:Nat):Int)] rfl gC h3.bk (by simp[fg,mC]) (eK _) ?_);intro w4 cz ax a_;have t4:=h3.put (m':={m with next:=m.next+1}) (p':=p) ax a_ rfl rfl rfl;obtain⟨cy,fG⟩:=t4.af cD aQ;have t:=eZ.late bn t4;have h4:=t.1;have a_:=h4.bk;clear t4 cz ax aw cw aQ h3 aX an cE hS dN cD;refine lB cy ?_;refine aU ?_;have oV:a<m.cells.length:=by omega
 obtain⟨g,sU,n8,_,_⟩:=h4.rc.Cs (A3 oV);simp only at n8;subst n8;obtain⟨ia,gN,od,L3⟩:=h4.inp;subst od;refine bC (fun w'=>ae [] w4 w') [] bE ?_;have hS:ae [] w4 w4.drew:=(ae.refl _ _).drew;generalize w4.drew=w5 at*;refine tk 0 ?_;refine tk 1 ?_;refine tk 2 ?_;refine tk 3 ?_;refine aI 4 (.int .i64 (m.read:Nat)) rfl (fun w9 aq=>aB rfl ((aq.af a_ (by simp)).cell rfl)) hS ?_;refine tk 5 ?_;refine tk 6 ?_;refine tk 7 ?_;refine aI 8 (.slice ia inp.length gN) rfl (fun w9 aq=>aB rfl ((aq.af a_ (by simp)).cell rfl)) hS ?_;refine tk 9 ?_;have tt:=t.aA hS;have h5:=tt.1;have cr:=h5.bk;have kL:=hS.af cy (by simp);by_cases oY:m.read<inp.length
 ·refine yO 10 ?_;refine bm ?_;obtain⟨ib,iq,hia,amJ,amK⟩:=L3 (by omega);subst hia;have hix:inp[m.read]?=some (inp.getD m.read 0):=by rw[List.getD_eq_getElem?_getD,List.getElem?_eq_getElem oY];rfl
  refine au ?_;refine bC (fun w'=>ae [] w5 w') [19] bE ?_;have jO:ae [] w5 w5.drew:=(ae.refl _ _).drew;generalize w5.drew=w6 at*;refine tk 0 ?_;refine tk 1 ?_;refine tk 2 ?_;refine tk 3 ?_;refine aI 4 (.slice (some ⟨g,0,none⟩) m.cells.length sU) rfl (fun w9 aq=>aB rfl ((aq.af cr (by simp)).cell rfl)) jO ?_;refine tk 5 ?_;refine aI 6 (.int .i64 (a:Nat)) rfl (fun w9 aq=>aB rfl ((aq.af kL (by simp)).cell rfl)) jO ?_;refine tk 7 ?_;refine tk 8 ?_;refine tk 9 ?_;refine aI 10 (.slice (some ⟨ib,iq,none⟩) inp.length gN) rfl (fun w9 aq=>aB rfl ((aq.af cr (by simp)).cell rfl)) jO ?_;refine tk 11 ?_;refine tk 12 ?_;refine tk 13 ?_;refine tk 14 ?_;refine aI 15 (.int .i64 (m.read:Nat)) rfl (fun w9 aq=>aB rfl ((aq.af cr (by simp)).cell rfl)) jO ?_;refine bD 16 _ rfl (fun w=>bJ m.read rfl oY w) ?_;refine aI 17 (.int .i64 (inp.getD m.read 0)) rfl (fun w9 aq=>aB rfl (by have:=ft amK (h5.kp.tr aq) amJ (by simp) m.read _ (Kg hix);simpa using this)) jO ?_;refine bD 18 _ rfl (fun w=>bJ a rfl oV w) ?_;have h6:=h5.aA jO;obtain⟨cur,qk,ZN,GU⟩:=h6.rc.set oV rfl;refine a8 19 rfl (aH [.int .i64 (inp.getD m.read 0)] rfl N6 qk (by simp;omega) (eK _) ?_);intro w7 jr aN eC;rw[Nat.zero_add,Nat.mul_one]at eC;refine⟨fun h=>absurd (by simp) h,?_⟩;refine bm ?_;have t7:=h6.P7 (by simpa[aW,Value.ownBlock]using aN) (GU eC);have EN:=(tt.aA jO).seq t7;have h7:=EN.1;have jt:=h7.bk;refine lB jt ?_;refine nM ((m.read+1:Nat):Int) ?_;refine au ?_;refine aj (aH [.int .i64 ((m.read+1:Nat):Int)] rfl gC jt (by simp[fg,mC]) (eK _) ?_);intro wz bw kT kU;have tz:=h7.put (m':={m with next:=m.next+1,cells:=m.cells.set a (inp.getD m.read 0),read:=m.read+1}) (p':=p) kT kU rfl rfl rfl;refine au ?_;have e:bu inp (12,((a:Nat):Int),B,N) m p=({m with next:=m.next+1,cells:=m.cells.set a (inp.getD m.read 0),read:=m.read+1},p):=by
   show(if m.read<inp.length then _ else _)=_;rw[if_pos oY];rfl
  rw[e];exact ay func53 rfl ⟨rfl,_,EN.seq tz⟩
 ·refine yN 10 ?_;refine bm ?_;refine au ?_;refine aj (aH [.int .i64 14] rfl gC cr (by simp[fg,mC]) (eK _) ?_);intro wz bw kT kU;have tz:=h5.put (m':={m with next:=m.next+1,state:=14}) (p':=p) kT kU rfl rfl rfl;refine au ?_;have e:bu inp (12,((a:Nat):Int),B,N) m p=({m with next:=m.next+1,state:=14},p):=by
   show(if m.read<inp.length then _ else _)=_;rw[if_neg oY]
  rw[e];exact ay func53 rfl ⟨rfl,_,tt.seq tz⟩
theorem aeL{w0 w:World}{b:Nat}{W:List Is}{inp:List Int}{cv iv:Value}{r:gh}{m k:Md}{p:Pr}(h:Bw w0 w b W inp cv iv r m k p)(hs:m.state=0){A B N:Int}(hx:W[m.next]?=some (13,A,B,N))(gS:W.length≤1000000)(aZ:m.stack.length≤1000)(_:m.cells.length≤1000)(h1:1≤m.stack.length)(yP:0≤A)(q:Bool):aC prog 53 [.pointer (some ⟨b,0,none⟩),.bool q] w fun v w'=>v=.bool true∧mW w0 w w' b W inp cv iv r (bu inp (13,A,B,N) m p).1 k (bu inp (13,A,B,N) m p).2:=by
 obtain⟨a,rfl⟩:∃a:Nat,A=(a:Nat):=⟨A.toNat,by omega⟩;obtain⟨sv,cl,ks,kc,ov⟩:=r;have hn:m.next<W.length:=(List.getElem?_eq_some_iff.1 hx).1;obtain⟨cb,cq,cA,cL,ik,dN⟩:=h.cd.ins.at hx;subst cL;refine aG 307 func53 ?_;refine lB h.bk ?_;refine aL ?_;refine au ?_;refine bC (fun w'=>ae [] w w') [] bE ?_;have hS:ae [] w w.drew:=(ae.refl _ _).drew;generalize w.drew=w1 at*;refine tk 0 ?_;refine tk 1 ?_;refine tk 2 ?_;refine aI 3 (.slice (some ⟨cb,cq,none⟩) W.length cA) rfl (fun w9 aq=>aB rfl ((aq.af h.bk (by simp)).cell rfl)) hS ?_;refine tk 4 ?_;refine tk 5 ?_;refine tk 6 ?_;refine tk 7 ?_;refine aI 8 (.int .i64 (m.next:Nat)) rfl (fun w9 aq=>aB rfl ((aq.af h.bk (by simp)).cell rfl)) hS ?_;refine bD 9 _ rfl (fun w=>bJ m.next rfl hn w) ?_;refine aI 10 (.agg (iC (13,((a:Nat):Int),B,N)).toArray) rfl (fun w9 aq=>bF (iC (13,((a:Nat):Int),B,N)) rfl (ft dN aq ik.2 (by simp))) hS ?_;refine a8 11 rfl (bO _ rfl pe ?_);intro w2 x5 gw cE an aX;refine⟨fun _=>hS.tr an,?_⟩;refine a8 12 rfl (aH (iC (13,((a:Nat):Int),B,N)) rfl pf aX (by simp[iC]) (nJ _) ?_);intro w3 cw aw aQ;rw[bs (by rfl)]at aQ;have bn:ae [] w w3:=hS.tr (an.aO aw (by omega));refine⟨fun _=>bn,?_⟩;refine bm ?_;have h3:=h.aA bn;have cD:x5∉dz b (.slice (some ⟨cb,cq,none⟩) W.length cA) ⟨sv,cl,ks,kc,ov⟩:=fun hm=>by
  have:=(h.own x5 hm).2;have:=hS.size;omega
 refine lB h3.bk ?_;refine nM ((m.next+1:Nat):Int) ?_;refine au ?_;refine aj (aH [.int .i64 ((m.next+1:Nat):Int)] rfl gC h3.bk (by simp[fg,mC]) (eK _) ?_);intro w4 cz ax a_;have t4:=h3.put (m':={m with next:=m.next+1}) (p':=p) ax a_ rfl rfl rfl;obtain⟨cy,fG⟩:=t4.af cD aQ;have t:=eZ.late bn t4;have h4:=t.1;have a_:=h4.bk;clear t4 cz ax aw cw aQ h3 aX an cE hS dN cD;refine lB cy ?_;refine aU ?_;refine oC (p7 h4 (by show 0<m.stack.length;omega) aZ (aR m.stack) rfl) ?_;rintro v w5⟨rfl,s',t5⟩;have tt:=t.seq t5;have h5:=tt.1;obtain⟨kL,rl⟩:=t5.af fG cy;have cr:=h5.bk;clear a_ cy;have e:bu inp (13,((a:Nat):Int),B,N) m p=({m with next:=if aR m.stack=0 then a else m.next+1,stack:=m.stack.dropLast},p):=rfl;rw[e];by_cases h0:aR m.stack=0
 ·rw[if_pos h0];refine ye ?_;refine lB kL ?_;refine au ?_;refine aj (aH [.int .i64 ((a:Nat):Int)] rfl gC cr (by simp[fg,mC]) (eK _) ?_);intro wz bw kT kU;have tz:=h5.put (m':={m with next:=a,stack:=m.stack.dropLast}) (p':=p) kT kU rfl rfl rfl;refine au ?_;exact ay func53 rfl ⟨rfl,_,tt.seq tz⟩
 ·rw[if_neg h0];refine aL ?_;refine au ?_;exact ay func53 rfl ⟨rfl,_,tt⟩
theorem aeM{w0 w:World}{b:Nat}{W:List Is}{inp:List Int}{cv iv:Value}{r:gh}{m k:Md}{p:Pr}(h:Bw w0 w b W inp cv iv r m k p)(hs:m.state=0){A B N:Int}(hx:W[m.next]?=some (14,A,B,N))(gS:W.length≤1000000)(_:m.stack.length≤1000)(_:m.cells.length≤1000)(yP:0≤A)(q:Bool):aC prog 53 [.pointer (some ⟨b,0,none⟩),.bool q] w fun v w'=>v=.bool true∧mW w0 w w' b W inp cv iv r (bu inp (14,A,B,N) m p).1 k (bu inp (14,A,B,N) m p).2:=by
 obtain⟨a,rfl⟩:∃a:Nat,A=(a:Nat):=⟨A.toNat,by omega⟩;obtain⟨sv,cl,ks,kc,ov⟩:=r;have hn:m.next<W.length:=(List.getElem?_eq_some_iff.1 hx).1;obtain⟨cb,cq,cA,cL,ik,dN⟩:=h.cd.ins.at hx;subst cL;refine aG 307 func53 ?_;refine lB h.bk ?_;refine aL ?_;refine au ?_;refine bC (fun w'=>ae [] w w') [] bE ?_;have hS:ae [] w w.drew:=(ae.refl _ _).drew;generalize w.drew=w1 at*;refine tk 0 ?_;refine tk 1 ?_;refine tk 2 ?_;refine aI 3 (.slice (some ⟨cb,cq,none⟩) W.length cA) rfl (fun w9 aq=>aB rfl ((aq.af h.bk (by simp)).cell rfl)) hS ?_;refine tk 4 ?_;refine tk 5 ?_;refine tk 6 ?_;refine tk 7 ?_;refine aI 8 (.int .i64 (m.next:Nat)) rfl (fun w9 aq=>aB rfl ((aq.af h.bk (by simp)).cell rfl)) hS ?_;refine bD 9 _ rfl (fun w=>bJ m.next rfl hn w) ?_;refine aI 10 (.agg (iC (14,((a:Nat):Int),B,N)).toArray) rfl (fun w9 aq=>bF (iC (14,((a:Nat):Int),B,N)) rfl (ft dN aq ik.2 (by simp))) hS ?_;refine a8 11 rfl (bO _ rfl pe ?_);intro w2 x5 gw cE an aX;refine⟨fun _=>hS.tr an,?_⟩;refine a8 12 rfl (aH (iC (14,((a:Nat):Int),B,N)) rfl pf aX (by simp[iC]) (nJ _) ?_);intro w3 cw aw aQ;rw[bs (by rfl)]at aQ;have bn:ae [] w w3:=hS.tr (an.aO aw (by omega));refine⟨fun _=>bn,?_⟩;refine bm ?_;have h3:=h.aA bn;have cD:x5∉dz b (.slice (some ⟨cb,cq,none⟩) W.length cA) ⟨sv,cl,ks,kc,ov⟩:=fun hm=>by
  have:=(h.own x5 hm).2;have:=hS.size;omega
 refine lB h3.bk ?_;refine nM ((m.next+1:Nat):Int) ?_;refine au ?_;refine aj (aH [.int .i64 ((m.next+1:Nat):Int)] rfl gC h3.bk (by simp[fg,mC]) (eK _) ?_);intro w4 cz ax a_;have t4:=h3.put (m':={m with next:=m.next+1}) (p':=p) ax a_ rfl rfl rfl;obtain⟨cy,fG⟩:=t4.af cD aQ;have t:=eZ.late bn t4;have h4:=t.1;have a_:=h4.bk;clear t4 cz ax aw cw aQ h3 aX an cE hS dN cD;refine lB cy ?_;refine aU ?_;refine aj (aH [.int .i64 ((a:Nat):Int)] rfl gC a_ (by simp[fg,mC]) (eK _) ?_);intro wz bw kT kU;have tz:=h4.put (m':={m with next:=a}) (p':=p) kT kU rfl rfl rfl;refine au ?_;have e:bu inp (14,((a:Nat):Int),B,N) m p=({m with next:=a},p):=rfl;rw[e];exact ay func53 rfl ⟨rfl,_,t.seq tz⟩
theorem aeN{w0 w:World}{b:Nat}{W:List Is}{inp:List Int}{cv iv:Value}{r:gh}{m k:Md}{p:Pr}(h:Bw w0 w b W inp cv iv r m k p)(hs:m.state=0){A B N:Int}(hx:W[m.next]?=some (16,A,B,N))(gS:W.length≤1000000)(_:m.stack.length≤1000)(_:m.cells.length≤1000)(q:Bool):aC prog 53 [.pointer (some ⟨b,0,none⟩),.bool q] w fun v w'=>v=.bool true∧mW w0 w w' b W inp cv iv r (bu inp (16,A,B,N) m p).1 k (bu inp (16,A,B,N) m p).2:=by
 obtain⟨sv,cl,ks,kc,ov⟩:=r;have hn:m.next<W.length:=(List.getElem?_eq_some_iff.1 hx).1;obtain⟨cb,cq,cA,cL,ik,dN⟩:=h.cd.ins.at hx;subst cL;refine aG 307 func53 ?_;refine lB h.bk ?_;refine aL ?_;refine au ?_;refine bC (fun w'=>ae [] w w') [] bE ?_;have hS:ae [] w w.drew:=(ae.refl _ _).drew;generalize w.drew=w1 at*;refine tk 0 ?_;refine tk 1 ?_;refine tk 2 ?_;refine aI 3 (.slice (some ⟨cb,cq,none⟩) W.length cA) rfl (fun w9 aq=>aB rfl ((aq.af h.bk (by simp)).cell rfl)) hS ?_;refine tk 4 ?_;refine tk 5 ?_;refine tk 6 ?_;refine tk 7 ?_;refine aI 8 (.int .i64 (m.next:Nat)) rfl (fun w9 aq=>aB rfl ((aq.af h.bk (by simp)).cell rfl)) hS ?_;refine bD 9 _ rfl (fun w=>bJ m.next rfl hn w) ?_;refine aI 10 (.agg (iC (16,A,B,N)).toArray) rfl (fun w9 aq=>bF (iC (16,A,B,N)) rfl (ft dN aq ik.2 (by simp))) hS ?_;refine a8 11 rfl (bO _ rfl pe ?_);intro w2 x5 gw cE an aX;refine⟨fun _=>hS.tr an,?_⟩;refine a8 12 rfl (aH (iC (16,A,B,N)) rfl pf aX (by simp[iC]) (nJ _) ?_);intro w3 cw aw aQ;rw[bs (by rfl)]at aQ;have bn:ae [] w w3:=hS.tr (an.aO aw (by omega));refine⟨fun _=>bn,?_⟩;refine bm ?_;have h3:=h.aA bn;have cD:x5∉dz b (.slice (some ⟨cb,cq,none⟩) W.length cA) ⟨sv,cl,ks,kc,ov⟩:=fun hm=>by
  have:=(h.own x5 hm).2;have:=hS.size;omega
 refine lB h3.bk ?_;refine nM ((m.next+1:Nat):Int) ?_;refine au ?_;refine aj (aH [.int .i64 ((m.next+1:Nat):Int)] rfl gC h3.bk (by simp[fg,mC]) (eK _) ?_);intro w4 cz ax a_;have t4:=h3.put (m':={m with next:=m.next+1}) (p':=p) ax a_ rfl rfl rfl;obtain⟨cy,fG⟩:=t4.af cD aQ;have t:=eZ.late bn t4;have h4:=t.1;have a_:=h4.bk;clear t4 cz ax aw cw aQ h3 aX an cE hS dN cD;refine lB cy ?_;refine aU ?_;refine aj (aH [.int .i64 1] rfl gC a_ (by simp[fg,mC]) (eK _) ?_);intro wz bw kT kU;have tz:=h4.put (m':={m with next:=m.next+1,state:=1}) (p':=p) kT kU rfl rfl rfl;refine au ?_;have e:bu inp (16,A,B,N) m p=({m with next:=m.next+1,state:=1},p):=rfl;rw[e];exact ay func53 rfl ⟨rfl,_,t.seq tz⟩
theorem adm{w0 w:World}{b:Nat}{W:List Is}{inp:List Int}{cv iv:Value}{r:gh}{m k:Md}{p:Pr}(h:Bw w0 w b W inp cv iv r m k p)(hs:m.state=0){A B N:Int}(hx:W[m.next]?=some (15,A,B,N))(gS:W.length≤1000000)(aZ:m.stack.length≤1000)(ek:m.cells.length≤1000)(q:Bool):aC prog 53 [.pointer (some ⟨b,0,none⟩),.bool q] w fun v w'=>v=.bool true∧mW w0 w w' b W inp cv iv r (bu inp (15,A,B,N) m p).1 (if q then(bu inp (15,A,B,N) m p).1 else k) (bu inp (15,A,B,N) m p).2:=by
 obtain⟨sv,cl,ks,kc,ov⟩:=r;have hn:m.next<W.length:=(List.getElem?_eq_some_iff.1 hx).1;obtain⟨cb,cq,cA,cL,ik,dN⟩:=h.cd.ins.at hx;subst cL;refine aG 307 func53 ?_;refine lB h.bk ?_;refine aL ?_;refine au ?_;refine bC (fun w'=>ae [] w w') [] bE ?_;have hS:ae [] w w.drew:=(ae.refl _ _).drew;generalize w.drew=w1 at*;refine tk 0 ?_;refine tk 1 ?_;refine tk 2 ?_;refine aI 3 (.slice (some ⟨cb,cq,none⟩) W.length cA) rfl (fun w9 aq=>aB rfl ((aq.af h.bk (by simp)).cell rfl)) hS ?_;refine tk 4 ?_;refine tk 5 ?_;refine tk 6 ?_;refine tk 7 ?_;refine aI 8 (.int .i64 (m.next:Nat)) rfl (fun w9 aq=>aB rfl ((aq.af h.bk (by simp)).cell rfl)) hS ?_;refine bD 9 _ rfl (fun w=>bJ m.next rfl hn w) ?_;refine aI 10 (.agg (iC (15,A,B,N)).toArray) rfl (fun w9 aq=>bF (iC (15,A,B,N)) rfl (ft dN aq ik.2 (by simp))) hS ?_;refine a8 11 rfl (bO _ rfl pe ?_);intro w2 x5 gw cE an aX;refine⟨fun _=>hS.tr an,?_⟩;refine a8 12 rfl (aH (iC (15,A,B,N)) rfl pf aX (by simp[iC]) (nJ _) ?_);intro w3 cw aw aQ;rw[bs (by rfl)]at aQ;have bn:ae [] w w3:=hS.tr (an.aO aw (by omega));refine⟨fun _=>bn,?_⟩;refine bm ?_;have h3:=h.aA bn;have cD:x5∉dz b (.slice (some ⟨cb,cq,none⟩) W.length cA) ⟨sv,cl,ks,kc,ov⟩:=fun hm=>by
  have:=(h.own x5 hm).2;have:=hS.size;omega
 refine lB h3.bk ?_;refine nM ((m.next+1:Nat):Int) ?_;refine au ?_;refine aj (aH [.int .i64 ((m.next+1:Nat):Int)] rfl gC h3.bk (by simp[fg,mC]) (eK _) ?_);intro w4 cz ax a_;have t4:=h3.put (m':={m with next:=m.next+1}) (p':=p) ax a_ rfl rfl rfl;obtain⟨cy,fG⟩:=t4.af cD aQ;have t:=eZ.late bn t4;have h4:=t.1;have a_:=h4.bk;clear t4 cz ax aw cw aQ h3 aX an cE hS dN cD;refine lB cy ?_;refine aU ?_;have e:bu inp (15,A,B,N) m p=({m with next:=m.next+1},p):=rfl;rw[e];cases q with
 |false=>
  refine au ?_;exact ay func53 rfl ⟨rfl,_,t⟩
 |true=>
  refine au ?_;refine ai (.agg (mC {m with next:=m.next+1} sv cl).toArray) (bF (mC {m with next:=m.next+1} sv cl) rfl (a_.range (by rfl))) ?_;refine oC (MZ (m:={m with next:=m.next+1}) h4.rs.nQ h4.rc.nQ ⟨aZ,ek⟩) ?_;rintro v w5⟨s',c',rfl,tB,EO,EP,aE⟩;obtain⟨s2,_⟩:=Jd tB.form;obtain⟨c2,_⟩:=Jd EO.form;refine au ?_;refine aj (aH (mC {m with next:=m.next+1} s' c') rfl JY (aE.af a_ (by simp)) (by simp[fg,mC]) (Kh s2 c2) ?_);intro wz bw kT kU;have tz:=h4.amE aE tB EO EP kT kU;refine au ?_;exact ay func53 rfl ⟨rfl,_,t.seq tz⟩
theorem af1{w0 w:World}{b:Nat}{W:List Is}{inp:List Int}{cv iv:Value}{r:gh}{m k:Md}{p:Pr}(h:Bw w0 w b W inp cv iv r m k p)(hs:m.state≠0)(q:Bool):aC prog 53 [.pointer (some ⟨b,0,none⟩),.bool q] w fun v w'=>v=.bool false∧w'=w:=by
 refine aG 307 func53 ?_;refine lB h.bk ?_;refine ye ?_;refine au ?_;exact ay func53 rfl ⟨rfl,rfl⟩
def StC(vs:List aJ)(bd:List ST)(av ab:Option Addr)(aY bh:Nat)(s:Nat):Prop:=∀(t:ST),ll t<s→ll t≤100000→HU vs.length t→∀{F:Nat→Prop} {w:World} {cs:List Value} {i0:Nat},iN F w (.agg #[.slice av vs.length aY,.slice ab bd.length bh]) vs bd→iO F w cs t→In F w→i0+2*ll t≤1000000→
  aC prog 125 [.agg #[.slice av vs.length aY,.slice ab bd.length bh],.agg cs.toArray,.int .i64 (i0:Nat)] w fun r w'=>fN jq w' w.heap.size r (fS vs t i0)∧ae [] w w'
theorem M0{vs:List aJ}{bd:List ST}{av ab:Option Addr}{aY bh:Nat}{s:Nat}(aZ:StC vs bd av ab aY bh s)(l:List ST)(lZ:cu l<s)(yV:cu l≤100000)(eT:sW vs.length l){F:Nat→Prop}{w:World}{x:Value}{i0:Nat}(hp:iN F w (.agg #[.slice av vs.length aY,.slice ab bd.length bh]) vs bd)(hE:eM F w x l)(hF:In F w)(Ar:i0+2*cu l≤1000000):aC prog 86 [.agg #[.slice av vs.length aY,.slice ab bd.length bh],x,.int .i64 (i0:Nat)] w fun r w'=>fN jq w' w.heap.size r (cN vs l i0)∧ae [] w w':=by
 obtain⟨a,cap,rfl⟩:=hE.form;have hlen:=DI l;refine aG 28 func86 ?_;refine au ?_;refine aj (bY [.slice av vs.length aY,.slice ab bd.length bh] rfl ?_);intro w2 x1 cJ bt hk cm;have gT:=hp.keep hk hF.stays;have RH:=hE.keep hk hF.stays;have dd:=hF.keep hk;have sZ:w.heap.size≤w2.heap.size:=hk.size;refine au ?_;refine cP (fun m σ w'=>∃(i:Nat) (rv:Value),i≤l.length∧m=l.length-i∧σ=[(1,.slice a l.length cap),(2,.int .i64 (i0:Nat)),(3,.pointer (some ⟨x1,0,none⟩)),(7,rv),(8,.int .i64 (i:Nat))]∧fN jq w' w2.heap.size rv (cN vs (l.take i) i0)∧ae [] w2 w') l.length _ ?_ ⟨0,_,by omega,by omega,rfl,fN.nil _ _ _,ae.refl _ _⟩ ?_
 ·exact⟨rfl,rfl,rfl,rfl,rfl,trivial⟩
 rintro m σ w6 ih⟨i,rv,hi,rfl,rfl,bN,aD⟩;have wW:=aD.af cm (by simp);refine au ?_;by_cases az:i<l.length
 ·refine ye ?_;have j_:l[i]?=some l[i]:=List.getElem?_eq_getElem az;have GX:=NO j_;have K7:=NP l (i+1);have r_:=sC vs (l.take i) i0;have xr:=Uz vs j_ i0;obtain⟨Q,hQ⟩:∃Q,Q=cN vs (l.take i) i0:=⟨_,rfl⟩;rw[←hQ]at bN r_ xr;have Aq:=Wj vs l[i] (i0+Q.length);obtain⟨ra,rc,rfl⟩:=bN.form;obtain⟨b1,q1,c1,ci,tC,og,fh,eO⟩:=RH.at j_;cases tC;refine au ?_;refine bC (fun w'=>ae [] w6 w') [11] bE ?_;have hS:ae [] w6 w6.drew:=(ae.refl _ _).drew;generalize w6.drew=w7 at*;refine tk 0 ?_;refine aI 1 (.agg #[.slice av vs.length aY,.slice ab bd.length bh]) rfl (fun w9 aq=>bF [.slice av vs.length aY,.slice ab bd.length bh] rfl ((aq.af wW (by simp)).range (by rfl))) hS ?_;refine tk 2 ?_;refine tk 3 ?_;refine bD 4 _ rfl (fun w=>bJ i rfl az w) ?_;refine aI 5 (.agg ci.toArray) rfl (fun w9 aq=>h_ ci hT rfl rfl (by rw[eO.length];rfl) (ft fh (aD.tr aq) (dd _ og) (by simp))) hS ?_;refine tk 6 ?_;refine tk 7 ?_;refine tk 8 ?_;refine uT 9 (((i0+Q.length:Nat):Int)) rfl (by decide+kernel) rfl rfl rfl rfl rfl (by simp only[kK];omega) ?_;have lV:=aD.tr hS;refine a8 10 rfl (aV (fst:=[]) (cap:=[]) rfl (aC.mono (aZ l[i] (by omega) (by omega) (OC eT j_) (gT.keep lV dd.stays) (eO.keep lV dd.stays) (dd.keep lV) (by omega)) ?_));rintro r w8⟨mS,aS⟩;refine⟨fun _=>hS.tr aS,?_⟩;have G0:=bN.aA (hS.tr aS);have s0:=lV.tr aS;refine a8 11 rfl (pY Q (fS vs l[i] (i0+Q.length)) rfl rfl rfl qM G0 mS.ins (by omega) s0.size ?_);intro v9 w9 BJ bg;refine⟨fun h=>absurd (by simp) h,?_⟩;refine tk 12 ?_;refine bm ?_;refine au ?_;refine yi (((i+1:Nat):Int)) rfl rfl rfl rfl rfl (by simp only[kK];omega) ?_;refine au ?_;refine bj ?_ (ih (l.length-(i+1)) [(1,.slice (some ⟨b1,q1,none⟩) l.length cap),(2,.int .i64 (i0:Nat)),(3,.pointer (some ⟨x1,0,none⟩)),(7,v9),(8,.int .i64 ((i+1:Nat):Int))] w9 (by omega) ⟨i+1,v9,by omega,rfl,rfl,?_,qH G0 s0 bg⟩)
  ·exact⟨rfl,rfl,rfl,rfl,rfl,trivial⟩
  ·rw[xr];exact BJ
 ·refine aL ?_;rw[List.take_of_length_le (by omega)]at bN;refine au ?_;exact ay func86 rfl ⟨bN.lower sZ,hk.tr aD⟩
theorem ado{vs:List aJ}{bd:List ST}(hs:ua vs){av ab:Option Addr}{aY bh:Nat}:∀(s:Nat),StC vs bd av ab aY bh s:=by
 intro s;induction s with
 |zero=>intro t ht;omega
 | succ s vA=>
  intro t ht fY eT F w cs i0 hp hX hF Ar;obtain⟨op,v,e,f,lb,lo⟩:=t;obtain⟨ce,cf,bv,ov,rfl,he,hf,hb,ho⟩:=hX.inv;obtain⟨e0,e1,e2,e3,rfl⟩:=jl he.length;obtain⟨f0,f1,f2,f3,rfl⟩:=jl hf.length;obtain⟨ba,bc,rfl⟩:=hb.form;obtain⟨oa,oc,rfl⟩:=ho.form;obtain⟨l8,gT,yT,oh,lp,pP,ux⟩:=eT;simp only[ll]at ht fY Ar;refine aG 121 func125 ?_;refine au ?_;refine aj (bY [.slice av vs.length aY,.slice ab bd.length bh] rfl ?_);intro w1 x1 cJ bt ah GZ;refine aj (bY [.int .i64 op,.int .i64 v,e0,e1,e2,e3,f0,f1,f2,f3,.slice ba lb.length bc,.slice oa lo.length oc] rfl ?_);intro w2 x2 gi cE an gZ;have cm:=an.af GZ (by simp);have hk:=ah.tr an;have ES:=hp.keep hk hF.stays;have iX:=he.keep hk hF.stays;have mF:=hf.keep hk hF.stays;have aX:=hb.keep hk hF.stays;have mE:=ho.keep hk hF.stays;have dd:=hF.keep hk;have sZ:w.heap.size≤w2.heap.size:=hk.size;clear GZ ah an;refine aP ?_;refine bT ?_;refine cH ?_;refine aP ?_;refine bT ?_;have HW:=O7 vs op e;have HX:=YF vs op f;obtain⟨E,kH⟩:∃E,eI vs op e=E:=⟨_,rfl⟩;rw[kH]at HW;refine fx (fun σ' w'=>∃rv,fN jq w' w2.heap.size rv E∧ae [] w2 w'∧Sub [(2,.int .i64 (i0:Nat)),(3,.pointer (some ⟨x1,0,none⟩)),(4,.pointer (some ⟨x2,0,none⟩)),(7,rv)] σ') ?_ ?_
  rotate_left
  ·intro fin;refine au ?_;refine ai _ (aB rfl (gZ.cell rfl)) ?_;refine aj (aV (fst:=[]) (cap:=[]) rfl ((rJ op 101 w2).mono ?_));rintro r w3⟨rfl,cC⟩;rw[cC,(wk op).1];obtain⟨qe,yU⟩:∃q,q=dw op:=⟨_,rfl⟩;rw[←yU];unfold eI at kH;rw[←yU]at kH;cases qe with
   |false=>
    refine aP ?_;have RF:E=[]:=by rw[←kH];rfl
    exact fin _ _ ⟨_,by rw[RF];exact fN.nil _ _ _,ae.refl _ _,rfl,rfl,rfl,rfl,trivial⟩
   |true=>
    refine aP ?_;refine cH ?_;refine ai (.agg #[.slice av vs.length aY,.slice ab bd.length bh]) (bF [.slice av vs.length aY,.slice ab bd.length bh] rfl (cm.range (by rfl))) ?_;refine au ?_;refine ai (.agg #[e0,e1,e2,e3]) (bF [e0,e1,e2,e3] rfl (gZ.range rfl)) ?_;refine aj (aV (fst:=[]) (cap:=[]) rfl ((Tw hs (fO e+1) e (by omega) (by omega) (oh yU.symm) ES iX dd).mono ?_));rintro r w4⟨wG,ax⟩;refine aP ?_;have RG:E=ey vs e:=by rw[←kH];rfl
    exact fin _ _ ⟨r,by rw[RG];exact wG,ax,rfl,rfl,rfl,rfl,trivial⟩
  rintro σ' w4⟨rv,bN,ax,bH⟩;refine bj bH ?_;clear bH;refine au ?_;refine ai (.agg #[.slice av vs.length aY,.slice ab bd.length bh]) (bF [.slice av vs.length aY,.slice ab bd.length bh] rfl ((ax.af cm (by simp)).range (by rfl))) ?_;refine au ?_;refine ai _ (aB rfl ((ax.af gZ (by simp)).cell rfl)) ?_;refine aj (aV (fst:=[]) (cap:=[]) rfl ((I8 (ES.keep ax dd.stays) (dd.keep ax) hs v).mono ?_));rintro r w6⟨rfl,aD⟩;replace bN:=bN.aA aD;have lW:=ax.tr aD;have wW:=lW.af cm (by simp);have pD:=lW.af gZ (by simp);clear ax aD;refine au ?_;refine ai _ (aB rfl (pD.cell rfl)) ?_;refine au ?_;by_cases h1:op=1
  ·subst h1;refine ye ?_;refine au ?_;refine ai _ (bL _ rfl rfl (FP 9 (cellOf vs v)) w6) ?_;refine aj (eE jq (iC (9,cellOf vs v,0,0)) rfl rfl (wq (9,cellOf vs v,0,0)) ?_);intro wa ga As xu l_ tD;have dD:=bN.aA l_;have mY:=lW.tr l_;refine aj (pY E [(9,cellOf vs v,0,0)] rfl rfl rfl qM dD (wA tD) (by simp;omega) mY.size ?_);intro vb wb sL q9;have s_:=qH dD mY q9;refine au ?_;refine ay func125 rfl ⟨?_,hk.tr s_⟩;simpa[fS,jB,fI,cY,kH]using sL.lower sZ
  refine aL ?_;refine au ?_;by_cases h2:op=2
  ·subst h2;obtain⟨kY,du⟩:=yT rfl;obtain⟨k,rfl⟩:∃k:Nat,v=(k:Nat):=⟨v.toNat,by omega⟩;simp only[Int.toNat_natCast]at du;have xn:vs[k]?=some vs[k]:=List.getElem?_eq_getElem du;have am2:=ES;obtain⟨vv,bv,pO,hv,_⟩:=am2;cases pO;obtain⟨vb,vq,vc,kx,CA,xp⟩:=hv.at xn;cases kx;have xq:jk vs ((k:Nat):Int)=vs[k].2:=by
    unfold jk;rw[Int.toNat_natCast,List.getD_eq_getElem?_getD,xn];rfl
   refine ye ?_;refine au ?_;refine ai (.agg #[.slice (some ⟨vb,vq,none⟩) vs.length aY,.slice ab bd.length bh]) (bF [.slice (some ⟨vb,vq,none⟩) vs.length aY,.slice ab bd.length bh] rfl (wW.range (by rfl))) ?_;refine au ?_;refine ai (.agg #[f0,f1,f2,f3]) (bF [f0,f1,f2,f3] rfl (pD.range rfl)) ?_;refine aj (aV (fst:=[]) (cap:=[]) rfl ((Tw hs (fO f+1) f (by omega) (by omega) (lp rfl) (ES.keep lW dd.stays) (mF.keep lW dd.stays) (dd.keep lW)).mono ?_));rintro r w7⟨rR,aN⟩;have hl7:=DJ vs f;have ZT:=bN.aA aN;have lV:=lW.tr aN;refine aj (pY E (ey vs f) rfl rfl rfl qM ZT rR.ins (by omega) lV.size ?_);intro v8 w8 mS aS;have s0:=qH ZT lV aS;have am3:=s0.af cm (by simp);have am4:=s0.af gZ (by simp);clear bN lW wW pD;have bN:=mS;have lW:=s0;refine au ?_;refine ai _ (aB rfl (am3.cell rfl)) ?_;refine au ?_;refine ai _ (aB rfl (am4.cell rfl)) ?_;refine ai _ (bJ k rfl du w8) ?_;refine au ?_;refine ai _ (aB rfl ((ft xp s0 (dd _ CA) (by simp)) 1 (.int .i64 vs[k].2) rfl)) ?_;refine ai _ (bL _ rfl rfl (af7 10 (cellOf vs ((k:Nat):Int)) vs[k].2) w8) ?_;refine aj (eE jq (iC (10,cellOf vs ((k:Nat):Int),vs[k].2,0)) rfl rfl (wq (10,cellOf vs ((k:Nat):Int),vs[k].2,0)) ?_);intro wa ga As xu l_ tD;have dD:=bN.aA l_;have mY:=lW.tr l_;refine aj (pY (E++ey vs f) [(10,cellOf vs ((k:Nat):Int),vs[k].2,0)] rfl rfl rfl qM dD (wA tD) (by simp;omega) mY.size ?_);intro vb wb sL q9;have s_:=qH dD mY q9;refine au ?_;refine ay func125 rfl ⟨?_,hk.tr s_⟩;simpa[fS,jB,fI,cY,kH,xq]using sL.lower sZ
  refine aL ?_;refine au ?_;by_cases h3:op=3
  ·subst h3;refine ye ?_;refine au ?_;refine ai _ (bL _ rfl rfl (NR 11) w6) ?_;refine aj (eE jq (iC (11,0,0,0)) rfl rfl (wq (11,0,0,0)) ?_);intro wa ga As xu l_ tD;have dD:=bN.aA l_;have mY:=lW.tr l_;refine aj (pY E [(11,0,0,0)] rfl rfl rfl qM dD (wA tD) (by simp;omega) mY.size ?_);intro vb wb sL q9;have s_:=qH dD mY q9;refine au ?_;refine ay func125 rfl ⟨?_,hk.tr s_⟩;simpa[fS,jB,fI,cY,kH]using sL.lower sZ
  refine aL ?_;refine au ?_;by_cases h4:op=4
  ·subst h4;refine ye ?_;refine au ?_;refine ai _ (bL _ rfl rfl (FP 12 (cellOf vs v)) w6) ?_;refine aj (eE jq (iC (12,cellOf vs v,0,0)) rfl rfl (wq (12,cellOf vs v,0,0)) ?_);intro wa ga As xu l_ tD;have dD:=bN.aA l_;have mY:=lW.tr l_;refine aj (pY E [(12,cellOf vs v,0,0)] rfl rfl rfl qM dD (wA tD) (by simp;omega) mY.size ?_);intro vb wb sL q9;have s_:=qH dD mY q9;refine au ?_;refine ay func125 rfl ⟨?_,hk.tr s_⟩;simpa[fS,jB,fI,cY,kH]using sL.lower sZ
  refine aL ?_;refine au ?_;by_cases h7:op=7
  ·subst h7;refine ye ?_;refine au ?_;refine ai _ (bL _ rfl rfl (NR 15) w6) ?_;refine aj (eE jq (iC (15,0,0,0)) rfl rfl (wq (15,0,0,0)) ?_);intro wa ga As xu l_ tD;have dD:=bN.aA l_;have mY:=lW.tr l_;refine aj (pY E [(15,0,0,0)] rfl rfl rfl qM dD (wA tD) (by simp;omega) mY.size ?_);intro vb wb sL q9;have s_:=qH dD mY q9;refine au ?_;refine ay func125 rfl ⟨?_,hk.tr s_⟩;simpa[fS,jB,fI,cY,kH]using sL.lower sZ
  refine aL ?_;refine au ?_;obtain⟨ra,rc,rfl⟩:=bN.form;refine ai (.agg #[.slice av vs.length aY,.slice ab bd.length bh]) (bF [.slice av vs.length aY,.slice ab bd.length bh] rfl (wW.range (by rfl))) ?_;refine au ?_;refine ai _ (aB rfl (pD.cell rfl)) ?_;refine au ?_;refine yi (((i0+E.length:Nat):Int)) rfl rfl rfl rfl rfl (by simp only[kK];omega) ?_;refine yi (((i0+E.length+1:Nat):Int)) rfl rfl rfl rfl rfl (by simp only[kK];omega) ?_;refine aj (aV (fst:=[]) (cap:=[]) rfl ((M0 vA lb (by omega) (by omega) pP (ES.keep lW dd.stays) (aX.keep lW dd.stays) (dd.keep lW) (by omega)).mono ?_));rintro r w7⟨PA,aN⟩;have HV:=sC vs lb (i0+E.length+1);obtain⟨X,RJ⟩:∃X,cN vs lb (i0+E.length+1)=X:=⟨_,rfl⟩;rw[RJ]at PA HV;obtain⟨xa,xc,rfl⟩:=PA.form;have rR:=bN.aA aN;have lV:=lW.tr aN;refine au ?_;refine yi (((i0+E.length:Nat):Int)) rfl rfl rfl rfl rfl (by simp only[kK];omega) ?_;refine yi (((i0+E.length+1:Nat):Int)) rfl rfl rfl rfl rfl (by simp only[kK];omega) ?_;refine au ?_;refine yi (((i0+E.length+1+X.length:Nat):Int)) rfl rfl rfl rfl rfl (by simp only[kK];omega) ?_;refine yi (((i0+E.length+1+X.length+1:Nat):Int)) rfl rfl rfl rfl rfl (by simp only[kK];omega) ?_;refine au ?_;obtain⟨Z,hZ⟩:∃Z:Is,Z=(13,((i0+E.length+1+X.length+1:Nat):Int),0,0):=⟨_,rfl⟩;refine ai (.agg (iC Z).toArray) (by rw[hZ];exact bL _ rfl rfl (FP 13 _) w7) ?_;refine aj (eE jq (iC Z) rfl rfl (wq Z) ?_);intro w8 g8 EU jP aS cB;have mS:=rR.aA aS;have akS:=PA.aA aS;have s0:=lV.tr aS;have iY:∀k∈(Value.slice ra E.length rc).ownBlock.toList,k<w6.heap.size:=fun k hm=>(bN.own k hm).2;refine aj (pY E [Z] rfl rfl rfl qM mS (wA cB) (by simp;omega) s0.size ?_);intro v9 w9 BJ bg;have ZU:=qH mS s0 bg;have akT:=akS.keep bg iY;refine au ?_;refine aj (pY (E++[Z]) X rfl rfl rfl qM BJ akT.ins (by simp;omega) ZU.size ?_);intro v10 bM yk bV;have zL:=qH BJ ZU bV;refine au ?_;refine ai _ (aB rfl ((zL.af gZ (by simp)).cell rfl)) ?_;clear bN lW rR mS BJ;have bN:=yk;have lW:=zL;by_cases h5:op=5
  ·subst h5;refine ye ?_;refine au ?_;refine ai _ (bL _ rfl rfl (FP 14 ((i0:Nat):Int)) bM) ?_;refine aj (eE jq (iC (14,((i0:Nat):Int),0,0)) rfl rfl (wq (14,((i0:Nat):Int),0,0)) ?_);intro wa ga As xu l_ tD;have dD:=bN.aA l_;have mY:=lW.tr l_;refine aj (pY (E++[Z]++X) [(14,((i0:Nat):Int),0,0)] rfl rfl rfl qM dD (wA tD) (by simp;omega) mY.size ?_);intro vb wb sL q9;have s_:=qH dD mY q9;refine au ?_;refine ay func125 rfl ⟨?_,hk.tr s_⟩;have e9:fS vs (.mk 5 v e f lb lo) i0=E++[Z]++X++[(14,((i0:Nat):Int),0,0)]:=by
    rw[fS,if_pos rfl,kH,RJ,hZ];simp[qa]
   rw[e9];exact sL.lower sZ
  have h6:op=6:=by omega
  subst h6;refine aL ?_;refine au ?_;refine ai (.agg #[.slice av vs.length aY,.slice ab bd.length bh]) (bF [.slice av vs.length aY,.slice ab bd.length bh] rfl ((zL.af cm (by simp)).range (by rfl))) ?_;refine au ?_;refine ai _ (aB rfl ((zL.af gZ (by simp)).cell rfl)) ?_;refine au ?_;refine aj (aV (fst:=[]) (cap:=[]) rfl ((M0 vA lo (by omega) (by omega) ux (ES.keep zL dd.stays) (mE.keep zL dd.stays) (dd.keep zL) (by omega)).mono ?_));rintro r dB⟨PB,b8⟩;have RE:=sC vs lo (i0+E.length+1+X.length+1);obtain⟨Y,hY⟩:∃Y,cN vs lo (i0+E.length+1+X.length+1)=Y:=⟨_,rfl⟩;rw[hY]at PB RE;obtain⟨ya,yc,rfl⟩:=PB.form;have Bs:=yk.aA b8;have alF:=zL.tr b8;refine au ?_;refine yi (((i0+E.length+1+X.length+1+Y.length:Nat):Int)) rfl rfl rfl rfl rfl (by simp only[kK];omega) ?_;obtain⟨J,hJ⟩:∃J:Is,J=(14,((i0+E.length+1+X.length+1+Y.length:Nat):Int),0,0):=⟨_,rfl⟩;refine ai (.agg (iC J).toArray) (by rw[hJ];exact bL _ rfl rfl (FP 14 _) dB) ?_;refine aj (eE jq (iC J) rfl rfl (wq J) ?_);intro fj g12 arB u6 di u0;have uU:=Bs.aA di;have ajy:=PB.aA di;have Y8:=alF.tr di;have am5:∀k∈v10.ownBlock.toList,k<bM.heap.size:=fun k hm=>(yk.own k hm).2;refine aj (pY (E++[Z]++X) [J] rfl rfl rfl qM uU (wA u0) (by simp;omega) Y8.size ?_);intro RI iW uV bZ;have Y9:=qH uU Y8 bZ;have ajz:=ajy.keep bZ am5;refine au ?_;refine aj (pY (E++[Z]++X++[J]) Y rfl rfl rfl qM uV ajz.ins (by simp;omega) Y9.size ?_);intro RL nh O8 gP;have alG:=qH uV Y9 gP;refine au ?_;refine ay func125 rfl ⟨?_,hk.tr alG⟩;have e9:fS vs (.mk 6 v e f lb lo) i0=E++[Z]++X++[J]++Y:=by
   rw[fS,if_neg (by decide),if_pos rfl,kH,RJ,hY,hZ,hJ];simp[rm]
  rw[e9];exact O8.lower sZ
theorem aeO{F:Nat→Prop}{w:World}{x:Value}{vs:List aJ}{body:List ST}(h:iN F w x vs body)(hF:In F w)(hs:ua vs)(eT:sW vs.length body)(bw:cu body≤100000):aC prog 51 [x] w fun r w'=>fN jq w' w.heap.size r (bB vs body)∧ae [] w w':=by
 have hp:=h;obtain⟨vv,bv,rfl,hv,hb⟩:=h;obtain⟨av,aY,rfl⟩:=hv.form;obtain⟨ab,bh,rfl⟩:=hb.form;refine aG 12 func51 ?_;refine au ?_;refine aj (bY [.slice av vs.length aY,.slice ab body.length bh] rfl ?_);intro w2 x1 cJ bt hk cm;refine au ?_;refine ai (.agg #[.slice av vs.length aY,.slice ab body.length bh]) (bF [.slice av vs.length aY,.slice ab body.length bh] rfl (cm.range (by rfl))) ?_;refine au ?_;refine ai _ (aB rfl (cm.cell rfl)) ?_;refine aj (aV (fst:=[]) (cap:=[]) rfl ((M0 (i0:=0) (ado hs (cu body+1)) body (by omega) bw eT (hp.keep hk hF.stays) (hb.keep hk hF.stays) (hF.keep hk) (by omega)).mono ?_));rintro r w6⟨bN,lW⟩;have hl:=sC vs body 0;refine au ?_;refine ai _ (bL _ rfl rfl (NR 16) w6) ?_;refine aj (eE jq (iC bA) rfl rfl (wq bA) ?_);intro wa ga As xu l_ tD;have dD:=bN.aA l_;have mY:=lW.tr l_;refine aj (pY (cN vs body 0) [bA] rfl rfl rfl qM dD (wA tD) (by simp;omega) mY.size ?_);intro vb wb sL q9;have s_:=qH dD mY q9;refine au ?_;exact ay func51 rfl ⟨sL.lower hk.size,hk.tr s_⟩
theorem eS.at{w:World}{v:Value}{l:List Int}(h:eS w v l){i:Nat}{x:Int}(hx:l[i]?=some x):∃b q cap,v=.slice (some ⟨b,q,none⟩) l.length cap∧b<w.heap.size∧w.rangeAt b (q+i) [.int .i64 x]:=by
 obtain⟨a,cap,h1,h2⟩:=h;have hi:=(List.getElem?_eq_some_iff.1 hx).1;obtain⟨b,q,h3,h4,h5⟩:=h2 (by omega);refine⟨b,q,cap,by rw[h1,h3],h4,fun j u hu=>?_⟩;have hj:j=0:=by have:=(List.getElem?_eq_some_iff.1 hu).1;simp at this;omega
 subst hj;have:u=.int .i64 x:=by simpa using hu.symm
 subst this;exact h5 i _ (Kg hx)
structure HO(c:Nat)(Q:List Is):Prop where
 rk:db c 0 Q 0
 jmp:u2 c 0 Q
 ops:∀x∈Q,1≤x.1∧x.1≤15
 cells:c≤1000
 len:Q.length≤100000
theorem db.le{c:Int}{n m:Nat}{l:List Is}(h:db c n l m)(hn:n≤24):m≤24:=by
 induction h with
 |nil=>exact hn
 |cons hx _ ih=>exact ih hx.room
section
variable{w0 w:World}{b:Nat}{inp:List Int}{cv iv:Value}{r:gh}{m k:Md}{p:Pr}{c:Nat}{Q:List Is}
theorem NL(hP:HO c Q)(h:Bw w0 w b (Q++[bA]) inp cv iv r m k p)(hf:Fit c Q m p)(fF:inp.length≤100000)(EM:p.1.length≤500000)(Ak:m.read≤1000000)(q:Bool):aC prog 53 [.pointer (some ⟨b,0,none⟩),.bool q] w fun v w'=>v=.bool (decide (m.state=0))∧mW w0 w w' b (Q++[bA]) inp cv iv r (eD (Q++[bA]) inp m p).1 (if q&&eG (Q++[bA]) m then(eD (Q++[bA]) inp m p).1 else k) (eD (Q++[bA]) inp m p).2:=by
 unfold eD eG;by_cases hs:¬m.state=0
 ·rw[if_neg hs];refine(af1 h hs q).mono ?_;rintro v w'⟨rfl,rfl⟩;simp only[hs,decide_false,Bool.false_and,Bool.and_false,Bool.false_eq_true,if_false];exact⟨trivial,r,eZ.refl h⟩
 replace hs:m.state=0:=by omega
 rw[if_pos hs];simp only[hs,decide_true,Bool.true_and];have hn:=hf.next hs;have mX:=hf.rk hs;have arh:=mX.le (by decide);have aZ:m.stack.length≤1000:=by omega
 have lI:=hf.cells;have ek:m.cells.length≤1000:=by have:=hP.cells;omega
 have hlen:=hP.len;obtain⟨x,hx,Rz⟩:=OA hP.rk hn mX;have hg:(Q++[bA]).getD m.next (0,0,0,0)=x:=by rw[List.getD_eq_getElem?_getD,hx];rfl
 rw[hg];have gS:(Q++[bA]).length≤1000000:=by simp;omega
 rcases Rz with⟨az,Ai,cT,_⟩|⟨az,rfl,bX⟩
 ·have P9:=hP.ops x (List.mem_of_getElem? Ai);have Cz:=hP.jmp x (List.mem_of_getElem? Ai);obtain⟨op,A,B,N⟩:=x;obtain⟨f1,f2,f3,f4,f5,f6⟩:=cT;simp only at f1 f2 f3 f4 f5 f6 P9;obtain⟨n1,n2,n3,n4,n5,n6⟩:=N7 op;have hA:op=13∨op=14→0≤A:=fun hj=>by
   obtain⟨kk,h1,_⟩:=Cz hj;simp only at h1;omega
  clear Cz;have bS:∀{d:Int},d≠15→(if q&&decide ((d,A,B,N).1=15)then(bu inp (d,A,B,N) m p).1 else k)=k:=fun{d} hd=>by simp[hd]
  have mQ:op=1∨op=2∨op=3∨op=4∨op=5∨op=6∨op=7∨op=8∨op=9∨op=10∨op=11∨op=12∨op=13∨op=14∨op=15:=by omega
  rcases mQ with rfl|rfl|rfl|rfl|rfl|rfl|rfl|rfl|rfl|rfl|rfl|rfl|rfl|rfl|rfl
  ·rw[bS (by decide)];exact afT h hs hx gS aZ ek q
  ·rw[bS (by decide)];obtain⟨g1,g2⟩:=f5 (.inl rfl);exact afU h hs hx gS aZ ek g1 (by omega) q
  ·rw[bS (by decide)];obtain⟨g1,g2,g3⟩:=f6 (.inl rfl);have:=n2 rfl;exact afV h hs hx gS aZ ek (by omega) g1 (by omega) q
  ·rw[bS (by decide)];have:=n3 (by omega);exact afW h hs hx gS aZ ek (by omega) q
  ·rw[bS (by decide)];have:=n3 (by omega);exact afX h hs hx gS aZ ek (by omega) q
  ·rw[bS (by decide)];have:=n3 (by omega);exact afY h hs hx gS aZ ek (by omega) q
  ·rw[bS (by decide)];have:=n3 (by omega);exact aeI h hs hx gS aZ ek (by omega) q
  ·rw[bS (by decide)];have:=n3 (by omega);exact aeJ h hs hx gS aZ ek (by omega) q
  ·rw[bS (by decide)];obtain⟨g1,g2⟩:=f5 (.inr (.inl rfl));have:=n4 (by omega);exact afZ h hs hx gS aZ ek (by omega) g1 (by omega) q
  ·rw[bS (by decide)];obtain⟨g1,g2,g3⟩:=f6 (.inr rfl);have:=n5 rfl;exact af0 h hs hx gS aZ ek (by omega) g1 (by omega) q
  ·rw[bS (by decide)];have:=n4 (by omega);exact adY h hs hx gS aZ ek (by omega) hf.out EM q
  ·rw[bS (by decide)];obtain⟨g1,g2⟩:=f5 (.inr (.inr rfl));exact aeK h hs hx gS aZ ek g1 (by omega) fF Ak q
  ·rw[bS (by decide)];have:=n4 (by omega);exact aeL h hs hx gS aZ ek (by omega) (hA (.inl rfl)) q
  ·rw[bS (by decide)];exact aeM h hs hx gS aZ ek (hA (.inr rfl)) q
  ·have e:(if q&&decide (((15:Int),A,B,N).1=15)then(bu inp (15,A,B,N) m p).1 else k)=(if q then(bu inp (15,A,B,N) m p).1 else k):=by simp
   rw[e];exact adm h hs hx gS aZ ek q
 ·have e:(if q&&decide (bA.1=15)then(bu inp bA m p).1 else k)=k:=by simp[bA]
  rw[e];exact aeN h hs hx gS aZ ek q
end
section
variable{w0 w:World}{b:Nat}{inp:List Int}{cv iv:Value}{r:gh}{m k:Md}{p:Pr}{c:Nat}{Q:List Is}
theorem adn(h:Bw w0 w b (Q++[bA]) inp cv iv r m k p)(hf:Fit c Q m p):aC prog 91 [.pointer (some ⟨b,0,none⟩)] w fun v w'=>v=.bool (eG (Q++[bA]) m)∧ae [] w w':=by
 refine aG 24 func91 ?_;unfold eG;refine au ?_;refine bC (fun w'=>ae [] w w') [] bE ?_;have hS:ae [] w w.drew:=(ae.refl _ _).drew;generalize w.drew=w1 at*;refine tk 0 ?_;refine tk 1 ?_;refine tk 2 ?_;refine tk 3 ?_;refine aI 4 (.int .i64 (m.state:Nat)) rfl (fun w9 aq=>aB rfl ((aq.af h.bk (by simp)).cell rfl)) hS ?_;by_cases hs:m.state=0
 ·have hn:=hf.next hs;have uw:m.next<(Q++[bA]).length:=by simp;omega
  obtain⟨x,RA⟩:∃x,x=(Q++[bA])[m.next]:=⟨_,rfl⟩;have hx:(Q++[bA])[m.next]?=some x:=by rw[List.getElem?_eq_getElem uw,RA]
  have hg:(Q++[bA]).getD m.next (0,0,0,0)=x:=by rw[List.getD_eq_getElem?_getD,hx];rfl
  obtain⟨cb,cq,cA,cL,ik,dN⟩:=h.cd.ins.at hx;subst cL;rw[hg];simp only[hs,decide_true,Bool.true_and];refine yN 5 ?_;refine tk 6 ?_;refine tk 7 ?_;refine tk 8 ?_;refine tk 9 ?_;refine aI 10 (.slice (some ⟨cb,cq,none⟩) (Q++[bA]).length cA) rfl (fun w9 aq=>aB rfl ((aq.af h.bk (by simp)).cell rfl)) hS ?_;refine tk 11 ?_;refine tk 12 ?_;refine tk 13 ?_;refine tk 14 ?_;refine aI 15 (.int .i64 (m.next:Nat)) rfl (fun w9 aq=>aB rfl ((aq.af h.bk (by simp)).cell rfl)) hS ?_;refine bD 16 _ rfl (fun w=>bJ m.next rfl uw w) ?_;refine tk 17 ?_;refine aI 18 (.int .i64 x.1) rfl (fun w9 aq=>aB rfl (ft dN aq ik.2 (by simp) 0 _ rfl)) hS ?_;by_cases ng:x.1=15
  ·refine yN 19 ?_;refine tk 20 ?_;refine tk 21 ?_;refine bm ?_;refine au ?_;exact ay func91 rfl ⟨by simp[ng],hS⟩
  ·refine yO 19 ?_;refine tk 20 ?_;refine tk 21 ?_;refine bm ?_;refine au ?_;exact ay func91 rfl ⟨by simp[ng],hS⟩
 ·refine yO 5 ?_;refine dp 6 ?_;refine dp 7 ?_;refine dp 8 ?_;refine dp 9 ?_;refine dp 10 ?_;refine dp 11 ?_;refine dp 12 ?_;refine dp 13 ?_;refine dp 14 ?_;refine dp 15 ?_;refine dp 16 ?_;refine dp 17 ?_;refine dp 18 ?_;refine dp 19 ?_;refine dp 20 ?_;refine dp 21 ?_;refine bm ?_;refine au ?_;exact ay func91 rfl ⟨by simp[hs],hS⟩
end
structure MkC:Prop where
 make:∀{F:Nat→Prop} {w:World} {x:Value} {vs:List aJ} {body:List ST},iN F w x vs body→In F w→vs.length≤100000→cu body≤100000→
  aC prog 132 [x] w fun r w'=>(∃v,r=.tuple #[v,.int .i64 (dq vs body)]∧lC (fun c=>w.heap.size≤c∧c<w'.heap.size) w' v (Gt vs body))∧ae [] w w'
theorem JF{vs:List aJ}{body:List ST}(h:dq vs body=0):ua vs∧vB vs∧sW vs.length body∧0≤aT vs∧aT vs≤48:=by
 obtain⟨h8,hv,k,hc⟩:=FB h;obtain⟨h1,h2⟩:=Nr hv;have h3:vB vs:=fun x hx=>(h1 x hx).1;exact⟨⟨by omega,fun x hx=>by have:=h1 x hx;omega⟩,h3,JH body hc,N_ h3,by omega⟩
def kz:List Value:=[.int .i64 0,.int .i64 0,.int .i64 0,.slice none 0 0]
def ke:List Value:=[.int .i64 1,.int .i64 0,.int .i64 5,.slice none 0 0]
def ks:List Value:=ep 3 0 ke kz (.slice none 0 0) (.slice none 0 0)
mutual
theorem Py{vs:List aJ}:∀(t:ET) {d k k':Nat},gO vs.length t d k=.ok k'→∀x∈ey vs t,1≤x.1∧x.1≤15
 |.mk op v m l,d,k,k',h,x,hx=>by
  obtain⟨hd,h1,k1,h2⟩:=DE h;obtain⟨a1,a2,_⟩:=DF h1;simp only[ey,List.mem_append,List.mem_singleton]at hx;rcases hx with hx|rfl
  ·exact YD l h2 x hx
  ·exact⟨a1,by show op≤15;omega⟩
theorem YD{vs:List aJ}:∀(l:List ET) {d k k':Nat},eY vs.length l d k=.ok k'→∀x∈gr vs l,1≤x.1∧x.1≤15
 |[],_,_,_,_,x,hx=>by simp[gr]at hx
 |t::r,d,k,k',h,x,hx=>by
  obtain⟨⟨k1,h1⟩,k2,h2⟩:=Du h;simp only[gr,List.mem_append]at hx;rcases hx with hx|hx
  ·exact Py t h1 x hx
  ·exact YD r h2 x hx
end
mutual
theorem alD{vs:List aJ}:∀(t:ST) {d k k':Nat},kM vs.length t d k=.ok k'→∀(i0:Nat),∀x∈fS vs t i0,1≤x.1∧x.1≤15
 | .mk op v e f b o,d,k,k',h,i0,x,hx=>by
  obtain⟨hd,h1,h2,h3,⟨k1,k2,h4⟩,k3,k4,h5⟩:=DG h;have ne:∀x∈eI vs op e,1≤x.1∧x.1≤15:=by
   unfold eI;split
   ·rename_i hn
    obtain⟨_,_,hc⟩:=h2 hn;exact Py e hc
   ·simp
  have nf:∀x∈fI vs op f,1≤x.1∧x.1≤15:=by
   unfold fI;split
   ·rename_i hn
    obtain⟨_,_,hc⟩:=h3 hn;exact Py f hc
   ·simp
  have jb:=fun i=>Ki b h4 i;have jo:=fun i=>Ki o h5 i;simp only[fS]at hx;split at hx
  ·simp only[qa,List.mem_append,List.mem_cons,List.not_mem_nil,or_false]at hx;rcases hx with hx|rfl|hx|rfl
   ·exact ne x hx
   ·exact⟨by show(1:Int)≤13;decide,by show(13:Int)≤15;decide⟩
   ·exact jb _ x hx
   ·exact⟨by show(1:Int)≤14;decide,by show(14:Int)≤15;decide⟩
  ·split at hx
   ·simp only[rm,List.mem_append,List.mem_cons]at hx;rcases hx with hx|rfl|hx|rfl|hx
    ·exact ne x hx
    ·exact⟨by show(1:Int)≤13;decide,by show(13:Int)≤15;decide⟩
    ·exact jb _ x hx
    ·exact⟨by show(1:Int)≤14;decide,by show(14:Int)≤15;decide⟩
    ·exact jo _ x hx
   ·simp only[List.mem_append,List.mem_singleton]at hx;rcases hx with hx|hx|rfl
    ·exact ne x hx
    ·exact nf x hx
    ·unfold jB
     (repeat' split)<;>simp
theorem Ki{vs:List aJ}:∀(l:List ST) {d k k':Nat},dI vs.length l d k=.ok k'→∀(i0:Nat),∀x∈cN vs l i0,1≤x.1∧x.1≤15
 |[],_,_,_,_,_,x,hx=>by simp[cN]at hx
 |t::r,d,k,k',h,i0,x,hx=>by
  obtain⟨⟨k1,h1⟩,k2,h2⟩:=Dw h;simp only[cN,List.mem_append]at hx;rcases hx with hx|hx
  ·exact alD t h1 i0 x hx
  ·exact Ki r h2 _ x hx
end
theorem zv{vs:List aJ}{body:List ST}(h:dq vs body=0)(bw:cu body≤1000):∃c:Nat,(c:Int)=aT vs∧c≤48∧HO c (cN vs body 0):=by
 obtain⟨_,GV,_,h0,Al⟩:=JF h;obtain⟨_,_,k,hc⟩:=FB h;have e:((aT vs).toNat:Int)=aT vs:=by omega
 have hl:=sC vs body 0;exact⟨(aT vs).toNat,e,by omega,by rw[e];exact DQ GV body hc 0,by rw[e];exact Kj GV body hc 0,Ki body hc 0,by omega,by omega⟩
def lU(m:Md)(p:Pr):Int:=if p.2 then 15 else if m.state=0 then 13 else if m.state>1 then(m.state:Int)-2 else 0
def cI(c:Int)(o l:Value):List Value:=[.int .i64 c,o,l]
theorem sG:((prog.info? 81).bind (·.zero)).map (·.cells)=some (cI 0 (.slice none 0 0) (.slice none 0 0)).toArray:=by kernel_rfl
theorem rO:dH prog 81 3=true:=by kernel_rfl
theorem ahx(a b:Option Addr)(n c m d:Nat):prog.built 81 [(1,.slice a n c),(2,.slice b m d)]=some (cI 0 (.slice a n c) (.slice b m d)).toArray:=by kernel_rfl
theorem rN(c:Int)(a b:Option Addr)(n k m d:Nat):∀u∈cI c (.slice a n k) (.slice b m d),u.oneCell'=true:=by
 intro u hu;simp only[cI,List.mem_cons,List.not_mem_nil,or_false]at hu;rcases hu with rfl|rfl|rfl<;>rfl
section
variable{w0 w:World}{b:Nat}{W:List Is}{inp:List Int}{cv iv:Value}{r:gh}{m k:Md}{p:Pr}
theorem N8(h:Bw w0 w b W inp cv iv r m k p)(aZ:m.state≤1000):aC prog 35 [.pointer (some ⟨b,0,none⟩)] w fun v w'=>v=.agg (cI (lU m p) r.o r.c).toArray∧ae [] w w':=by
 obtain⟨sv,cl,ks,kc,ov⟩:=r;obtain⟨oa,sV,oX⟩:=h.ro.form;obtain⟨ca,cA,ek⟩:=h.rc.form;simp only at oX ek;subst oX;subst ek;refine aG 40 func35 ?_;refine au ?_;refine aj (bO _ rfl sG ?_);intro w1 x2 gi bt ah aM;refine au ?_;refine bC (fun w'=>ae [] w1 w') [] bE ?_;have hS:ae [] w1 w1.drew:=(ae.refl _ _).drew;generalize w1.drew=w2 at*;have oR:=ah.af h.bk (by simp);refine tk 0 ?_;refine tk 1 ?_;refine tk 2 ?_;refine aI 3 (.slice oa p.1.length sV) rfl (fun w9 aq=>aB rfl ((aq.af oR (by simp)).cell rfl)) hS ?_;refine tk 4 ?_;refine tk 5 ?_;refine tk 6 ?_;refine tk 7 ?_;refine aI 8 (.slice ca m.cells.length cA) rfl (fun w9 aq=>aB rfl ((aq.af oR (by simp)).cell rfl)) hS ?_;refine bD 9 (.agg (cI 0 (.slice oa p.1.length sV) (.slice ca m.cells.length cA)).toArray) rfl (fun w=>bL _ rfl rfl (ahx _ _ _ _ _ _) w) ?_;refine a8 10 rfl (bO _ rfl sG ?_);intro w3 x3 fX cw aw aQ;refine⟨fun _=>hS.tr aw,?_⟩;refine a8 11 rfl (aH (cI 0 (.slice oa p.1.length sV) (.slice ca m.cells.length cA)) rfl rO aQ (by simp[cI]) (rN _ _ _ _ _ _ _) ?_);intro w4 cz ax a_;rw[bs (by rfl)]at a_;have gP:ae [] w1 w4:=hS.tr (aw.aO ax (by omega));refine⟨fun _=>gP,?_⟩;refine bm ?_;have K4:=gP.af oR (by simp);have bS:x2≠x3:=by have:=hS.size;omega
 have amL:w.heap.size≤x3:=by have:=hS.size;have:=ah.size;omega
 have dJ:=ah.tr gP;have ZO:=gP.af aM (by simp);refine bT ?_;refine fx (fun σ' w'=>ak w' x3 (cI (if m.state=0 then 13 else if m.state>1 then(m.state:Int)-2 else 0) (.slice oa p.1.length sV) (.slice ca m.cells.length cA)) 81∧ae [x3] w4 w'∧Sub [(0,.pointer (some ⟨b,0,none⟩)),(2,.pointer (some ⟨x2,0,none⟩)),(3,.pointer (some ⟨x3,0,none⟩))] σ') ?_ ?_
 rotate_left
 ·intro fin;refine lB K4 ?_;by_cases h0:m.state=0
  ·rw[if_pos h0]at fin;refine ye ?_;refine au ?_;refine aj (aH [.int .i64 13] rfl gC a_ (by simp[cI]) (eK _) ?_);intro w5 iV aE cr;refine aP ?_;exact fin _ _ ⟨cr,aE,rfl,rfl,rfl,trivial⟩
  ·rw[if_neg h0]at fin;refine aL ?_;refine lB K4 ?_;by_cases h1:m.state>1
   ·rw[if_pos h1]at fin;refine ye ?_;refine lB K4 ?_;refine nM (-2+(m.state:Int)) ?_;refine au ?_;refine aj (aH [.int .i64 (-2+(m.state:Int))] rfl gC a_ (by simp[cI]) (eK _) ?_);intro w5 iV aE cr;refine aP ?_;have e2:(m.state:Int)-2=-2+(m.state:Int):=by omega
    rw[e2]at fin;exact fin _ _ ⟨cr,aE,rfl,rfl,rfl,trivial⟩
   ·rw[if_neg h1]at fin;refine aL ?_;refine aP ?_;exact fin _ _ ⟨a_,ae.refl _ _,rfl,rfl,rfl,trivial⟩
 clear a_;rintro σ' w5⟨cr,aE,bH⟩;refine bj bH ?_;have amM:=aE.af K4 (by simp;have:=h.bk.lt;omega);have B3:=aE.af ZO (by simpa using bS);refine bT ?_;refine fx (fun σ' w'=>ak w' x3 (cI (lU m p) (.slice oa p.1.length sV) (.slice ca m.cells.length cA)) 81∧ae [x3] w4 w'∧Sub [(2,.pointer (some ⟨x2,0,none⟩)),(3,.pointer (some ⟨x3,0,none⟩))] σ') ?_ ?_
 rotate_left
 ·intro fin;refine lB amM ?_;cases hp:p.2 with
  |false=>
   have kV:lU m p=(if m.state=0 then 13 else if m.state>1 then(m.state:Int)-2 else 0):=by unfold lU;rw[hp,if_neg (by decide)]
   refine aP ?_;exact fin _ _ ⟨by rw[kV];exact cr,aE,rfl,rfl,trivial⟩
  |true=>
   have kV:lU m p=15:=by unfold lU;rw[hp,if_pos rfl]
   refine au ?_;refine aj (aH [.int .i64 15] rfl gC cr (by simp[cI]) (eK _) ?_);intro w6 iI aD dM;refine aP ?_;exact fin _ _ ⟨by rw[kV];exact dM,aE.tr aD,rfl,rfl,trivial⟩
 rintro σ' w6⟨dM,aD,bH⟩;refine bj bH ?_;have amN:=aD.af ZO (by simpa using bS);refine au ?_;refine ai (.agg (cI (lU m p) (.slice oa p.1.length sV) (.slice ca m.cells.length cA)).toArray) (bF (cI (lU m p) (.slice oa p.1.length sV) (.slice ca m.cells.length cA)) rfl (dM.range (by rfl))) ?_;refine aj (aH (cI (lU m p) (.slice oa p.1.length sV) (.slice ca m.cells.length cA)) rfl rO amN (by simp[cI]) (rN _ _ _ _ _ _ _) ?_);intro w7 jr aN eC;rw[bs (by rfl)]at eC;refine au ?_;exact df func35 (.inr (.inr (.inl ⟨_,_,_,rfl,rfl,cV hT eC rfl⟩))) ⟨rfl,(dJ.aO aD amL).aO aN (by omega)⟩
end
theorem ahy(a:Option Addr)(n c:Nat):prog.built LZ [(5,.slice a n c)]=some (mC ⟨0,[],0,0,0,[]⟩ (.slice none 0 0) (.slice a n c)).toArray:=by kernel_rfl
theorem ajp(c:Nat):dZ (List.replicate c 0)=List.replicate c (Value.int .i64 0):=by simp[dZ]
theorem ahz(ca ia sa la ka ta:Option Addr)(c1 c2 i1 i2 s1 s2 l1 l2 k1 k2 t1 t2:Nat)(m k:Md):prog.built xh [(0,.slice ca c1 c2),(1,.slice ia i1 i2),(2,.agg (mC m (.slice sa s1 s2) (.slice la l1 l2)).toArray),(3,.agg (mC k (.slice ka k1 k2) (.slice ta t1 t2)).toArray)]=some (fg (.slice ca c1 c2) (.slice ia i1 i2) m k ([],false) ⟨.slice sa s1 s2,.slice la l1 l2,.slice ka k1 k2,.slice ta t1 t2,.slice none 0 0⟩).toArray:=by
 obtain⟨a1,a2,a3,a4,a5,a6⟩:=m;obtain⟨b1,b2,b3,b4,b5,b6⟩:=k
 kernel_rfl
theorem Tv{F:Nat→Prop}{w:World}{x iv:Value}{vs:List aJ}{body:List ST}{inp:List Int}{c:Nat}(h:iN F w x vs body)(hF:In F w)(hi:eS w iv inp)(cX:dq vs body=0)(bw:cu body≤1000)(hc:(c:Int)=aT vs)(u3:c≤48):aC prog 31 [x,iv] w fun v w'=>∃b cv r,v=.pointer (some ⟨b,0,none⟩)∧Bw w w' b (bB vs body) inp cv iv r (gL c) (gL c) ([],false):=by
 obtain⟨uZ,GV,eT,_,_⟩:=JF cX;have hh:=h;obtain⟨vv,bv,rfl,hv,hb⟩:=h;obtain⟨av,aY,rfl⟩:=hv.form;obtain⟨ab,bh,rfl⟩:=hb.form;have kW:=hi;obtain⟨ia,gN,rfl,_⟩:=kW;refine aG 21 func31 ?_;refine au ?_;refine aj (bY [.slice av vs.length aY,.slice ab body.length bh] rfl ?_);intro w1 x2 gi bt ah aM;refine au ?_;refine ai (.agg #[.slice av vs.length aY,.slice ab body.length bh]) (bF [.slice av vs.length aY,.slice ab body.length bh] rfl (aM.range (by rfl))) ?_;refine lB aM ?_;refine oC (I8 (hh.keep ah hF.stays) (hF.keep ah) uZ (vs.length:Nat)) ?_;rintro r w2⟨rfl,an⟩;have pN:cellOf vs (vs.length:Nat)=((c:Nat):Int):=by
  unfold cellOf;rw[Int.toNat_natCast,List.take_length,hc]
 rw[pN];refine aj (Ux dA c rfl rfl rfl (by decide+kernel) (by omega) ?_);intro w3 g hg cw aw aQ;refine ai _ (bL _ rfl rfl (ahy _ _ _) w3) ?_;refine aj (bO _ rfl XF ?_);intro w4 x5 gw cz ax a_;refine aj (aH (mC ⟨0,[],0,0,0,[]⟩ (.slice none 0 0) (.slice (some ⟨g,0,none⟩) c c)) rfl JY a_ (by simp[mC]) (Kh rfl rfl) ?_);intro w5 iV aE cr;rw[bs (by rfl)]at cr;have kN:ae [] w3 w5:=ax.aO aE (by omega);have cK:ae [] w w5:=((ah.tr an).tr aw).tr kN;have HP:w.heap.size≤g:=by have:=ah.size;have:=an.size;omega
 have yQ:=kN.af aQ (by simp);have bN:bl w5 w.heap.size (.slice (some ⟨g,0,none⟩) c c) (List.replicate c 0):=⟨by simp[dZ],.inr ⟨g,c,_,by simp,HP,yQ,by simp,by simp,by rw[ajp];simp⟩⟩;have Ei:=((an.tr aw).tr kN).af aM (by simp);refine au ?_;refine bC (fun w'=>ae [] w5 w') [] bE ?_;have hS:ae [] w5 w5.drew:=(ae.refl _ _).drew;generalize w5.drew=w6 at*;refine aI 0 (.agg #[.slice av vs.length aY,.slice ab body.length bh]) rfl (fun w9 aq=>bF [.slice av vs.length aY,.slice ab body.length bh] rfl ((aq.af Ei (by simp)).range (by rfl))) hS ?_;refine tk 2 ?_;refine aI 3 (.agg (mC ⟨0,[],0,0,0,[]⟩ (.slice none 0 0) (.slice (some ⟨g,0,none⟩) c c)).toArray) rfl (fun w9 aq=>bF (mC ⟨0,[],0,0,0,[]⟩ (.slice none 0 0) (.slice (some ⟨g,0,none⟩) c c)) rfl ((aq.af cr (by simp)).range (by rfl))) hS ?_;refine aI 4 (.agg (mC (gL c) (.slice none 0 0) (.slice (some ⟨g,0,none⟩) c c)).toArray) rfl (fun w9 aq=>bF (mC (gL c) (.slice none 0 0) (.slice (some ⟨g,0,none⟩) c c)) rfl ((aq.af cr (by simp)).range (by rfl))) hS ?_;have fy:=cK.tr hS;refine dC 1 (aeO (hh.keep fy hF.stays) (hF.keep fy) uZ eT (by omega)) ?_;rintro cv w7⟨kV,aN⟩;refine⟨fun _=>hS.tr aN,?_⟩;have ud:=hS.tr aN;have rR:=bN.keep ud fun _ _=>by simp
 refine dC 5 (MZ (m:=gL c) (s:=.slice none 0 0) (c:=.slice (some ⟨g,0,none⟩) c c) ⟨none,0,rfl,fun h=>absurd h (by simp[gL])⟩ rR.nQ (by simp[gL];omega)) ?_;rintro v w8⟨s',c',rfl,tB,EO,EP,aS⟩;refine⟨fun _=>ud.tr aS,?_⟩;have K5:=ud.tr aS;obtain⟨ka,amO,rfl⟩:=tB.form;obtain⟨ta,amP,rfl⟩:=EO.form;obtain⟨ca,cA,rfl⟩:=kV.form;obtain⟨R,hR⟩:∃R:gh,R=⟨.slice none 0 0,.slice (some ⟨g,0,none⟩) c c,.slice ka (gL c).stack.length amO,.slice ta (gL c).cells.length amP,.slice none 0 0⟩:=⟨_,rfl⟩;refine bD 6 (.agg (fg (.slice ca (bB vs body).length cA) (.slice ia inp.length gN) (gL c) (gL c) ([],false) R).toArray) rfl (fun w=>by rw[hR];exact bL _ rfl rfl (ahz _ _ _ _ _ _ _ _ _ _ _ _ _ _ _ _ _ _ (gL c) (gL c)) w) ?_;refine a8 7 rfl (bY (fg (.slice ca (bB vs body).length cA) (.slice ia inp.length gN) (gL c) (gL c) ([],false) R) rfl ?_);intro w9 b lX n_ bg RB;refine⟨fun _=>K5.tr bg,?_⟩;refine tk 8 ?_;refine bm ?_;refine au ?_;refine ay func31 rfl ⟨b,.slice ca (bB vs body).length cA,R,rfl,?_⟩;have amQ:ae [] w w9:=(cK.tr K5).tr bg;have low:∀{B:Nat} {v:Value} {l:List Int},bl w9 B v l→w.heap.size≤B→bl w9 w.heap.size v l:=fun{B v l} hv hB=>by
  refine⟨hv.1,?_⟩;rcases hv.2 with h0|⟨g,cap,cur,e1,e2,e3⟩
  ·exact .inl h0
  ·exact .inr ⟨g,cap,cur,e1,Nat.le_trans hB e2,e3⟩
 have yR:=bN.keep (K5.tr bg) fun _ _=>by simp
 have amR:=tB.keep bg fun _ _=>by simp
 have amS:=EO.keep bg fun _ _=>by simp
 have mD:w.heap.size≤w7.heap.size:=(cK.tr ud).size;have L0:g<w7.heap.size:=Nat.lt_of_lt_of_le yQ.lt ud.size;have ZP:∀k,k∉aW (.slice none 0 0):=fun k hk=>by simp[aW,Value.ownBlock]at hk
 have K6:∀{v:Value},jI (.slice none 0 0) v:=fun{v} k hk=>absurd hk (ZP k);have P_:∀{v:Value},jI v (.slice none 0 0):=fun{v} k _=>ZP k;have gn:∀{v:Value} {l:List Int},bl w8 w7.heap.size v l→jI (.slice (some ⟨g,0,none⟩) c c) v:=fun{v l} hv k hk hm=>by
  have:k=g:=by simpa[aW,Value.ownBlock]using hk
  have:=(hv.lt k hm).1;omega
 rw[hR]at RB⊢;exact⟨amQ,by have:=cK.size;have:=K5.size;omega,RB,((kV.aA aS).aA bg).lower (by have:=fy.size;omega),hi,bl.nil _ _,by simpa[gL]using yR,low amR mD,low amS mD,bl.nil _ _,⟨K6,K6,K6,K6,gn tB,gn EO,P_,EP,P_,P_⟩⟩
structure Told where
 code:Int
 out:List Int
 cells:List Int
 used:Int
 fault:Int
def qR(r:Nat×List Int×List Int×Nat):Told:=⟨r.1,r.2.1,r.2.2.1,r.2.2.2,0⟩
def nN(vs:List aJ)(body:List ST)(inp:List Int)(fuel:Nat):Ex Es:=uE vs inp fuel body (qC (aT vs).toNat)
def gv(vs:List aJ)(body:List ST)(inp:List Int)(fuel:Int):Told:=
 if dq vs body=0 then(if inp.length≤40∧0≤fuel∧fuel≤3000 then qR (nU (nN vs body inp fuel.toNat))else⟨0,[],[],0,1⟩)else⟨0,[],[],0,dq vs body⟩
def xB(w:World)(v:Value)(l:List Int):Prop:=eS w v l∧∀a n cap,v=.slice a n cap→n≤cap
def Nw(w:World)(v:Value):Prop:=∀b q n c,v=.slice (some ⟨b,q,none⟩) n c→0<n→w.heap.size≤b
structure IdC:Prop where
 run:∀{F:Nat→Prop} {w:World} {x iv:Value} {vs:List aJ} {body:List ST} {inp:List Int} (fuel:Int),iN F w x vs body→In F w→xB w iv inp→vs.length≤100000→cu body≤1000→inp.length≤100000→
  aC prog 100 [x,iv,.int .i64 fuel] w fun r w'=>(∃ov cv,r=.tuple #[.agg (cI (gv vs body inp fuel).code ov cv).toArray,.int .i64 (gv vs body inp fuel).used,.int .i64 (gv vs body inp fuel).fault]∧xB w' ov (gv vs body inp fuel).out∧eS w' cv (gv vs body inp fuel).cells∧Nw w ov∧Nw w cv)∧ae [] w w'
theorem XX{vs:List aJ}{body:List ST}(h:dq vs body=0)(bw:cu body≤1000)(inp:List Int)(fuel:Nat):∃n m out,n≤fuel∧pu (bB vs body) inp (aT vs).toNat n=(m,(out,false))∧(∀k<n,(pu (bB vs body) inp (aT vs).toNat k).1.state=0)∧(n=fuel∨m.state≠0)∧m.state≤14∧m.cells.length≤48∧out.length≤n∧nU (nN vs body inp fuel)=(if m.state=0 then 13 else if m.state=1 then 0 else m.state-2,out,m.cells,n):=by
 obtain⟨n,m,out,h1,⟨h2,h3⟩,h4,h5⟩:=aag h inp fuel (aT vs).toNat;have h2:pu (bB vs body) inp (aT vs).toNat n=(m,(out,false)):=h2;obtain⟨c,hc,Al,hP⟩:=zv h bw;have lI:c=(aT vs).toNat:=by omega
 have hf:=Bz (inp:=inp) hP.rk hP.jmp n;rw[lI,show cN vs body 0++[bA]=bB vs body from rfl,h2]at hf;obtain⟨b1,b2,b3⟩:=DB (W:=bB vs body) (inp:=inp) (c:=(aT vs).toNat) n;rw[h2]at b2 b3;have ek:=hf.cells;exact⟨n,m,out,h1,h2,h3,h4,b3,by have:(m.cells.length:Int)=((aT vs).toNat:Int):=ek;omega,b2,h5⟩
theorem Oh{vs:List aJ}{body:List ST}(bw:cu body≤1000)(inp:List Int)(fuel:Int):(gv vs body inp fuel).out.length≤3000∧(gv vs body inp fuel).cells.length≤48:=by
 unfold gv;split
 ·rename_i h
  split
  ·obtain⟨n,m,out,h1,_,_,_,_,h5,h6,h7⟩:=XX h bw inp fuel.toNat;rw[h7];exact⟨by show out.length≤3000;omega,h5⟩
  ·exact⟨by simp,by simp⟩
 ·exact⟨by simp,by simp⟩
theorem X6{vs:List aJ}{body:List ST}{inp:List Int}{fuel:Int}(h:dq vs body=0)(hi:inp.length≤40)(h0:0≤fuel)(h3:fuel≤3000):gv vs body inp fuel=qR (nU (nN vs body inp fuel.toNat)):=by
 unfold gv;rw[if_pos h,if_pos ⟨hi,h0,h3⟩]
theorem aid{vs:List aJ}{body:List ST}{inp:List Int}{fuel:Int}(h:¬dq vs body=0):gv vs body inp fuel=⟨0,[],[],0,dq vs body⟩:=by
 unfold gv;rw[if_neg h]
theorem JN{vs:List aJ}{body:List ST}{inp:List Int}{fuel:Int}(h:dq vs body=0)(hi:¬(inp.length≤40∧0≤fuel∧fuel≤3000)):gv vs body inp fuel=⟨0,[],[],0,1⟩:=by
 unfold gv;rw[if_pos h,if_neg hi]
def jz:List Value:=[.int .i64 0,.int .i64 0,.int .i64 0,.slice none 0 0]
theorem Ko(w:World):xB w (.slice none 0 0) []:=⟨⟨none,0,rfl,fun h=>absurd h (by simp)⟩,fun a n cap h=>by injection h with h1 h2 h3;omega⟩
theorem NW(m:Md)(p:Pr)(h:p.2=false):lU m p=(((if m.state=0 then 13 else if m.state=1 then 0 else m.state-2:Nat)):Int):=by
 unfold lU;rw[h];simp only[Bool.false_eq_true,if_false];split
 ·rfl
 ·split
  ·rw[if_neg (by omega)];omega
  ·rw[if_pos (by omega)];rfl
def jU(s:Sp):List Value:=[.int .i64 s.1,.int .i64 s.2.1,.int .i64 s.2.2.1,.int .u64 (s.2.2.2:Nat)]
def qW(vs:List aJ)(body:List ST)(inp:List Int):Int:=if dq vs body=0 then(if inp.length≤40 then 0 else 1)else dq vs body
def lz0(c:Nat):Lz:=⟨E1 c,List.replicate 112 0,List.replicate 112 0,0⟩
def jH(vs:List aJ)(body:List ST)(inp:List Int)(z:Lz)(i:Nat):Prop:=(0≤z.gen∧z.gen≤(i:Int))∧∃g,g≤i∧jd (bB vs body) inp (aT vs).toNat z.lf g
def pF(nw:List Is→List Int→Md→List Int→List Int)(L:List Is)(inp:List Int)(s:Sp)(z:Lz):Lz×Nat:=if jA s=0 then rC nw L inp s.1 s.2.1.toNat (qd s) z else(z,0)
theorem ada(s:Sp)(w:World):aC prog 55 [.agg (jU s).toArray] w fun r w'=>r=.int .i64 (jA s)∧ae [] w w':=by
 obtain⟨kd,N,K,mk⟩:=s;refine aG 34 func55 ?_;refine au ?_;refine aj (bY (jU (kd,N,K,mk)) rfl ?_);intro w1 x1 cJ bt ah aM;refine lB aM ?_;unfold jA;simp only;by_cases h1:kd<1
 ·refine ye ?_;refine au ?_;rw[if_pos (.inl h1)];exact ay func55 rfl ⟨rfl,ah⟩
 refine aL ?_;refine lB aM ?_;by_cases h2:3<kd
 ·refine ye ?_;refine au ?_;rw[if_pos (.inr h2)];exact ay func55 rfl ⟨rfl,ah⟩
 refine aL ?_;refine au ?_;rw[if_neg (by omega)];refine lB aM ?_;by_cases h3:kd=2
 ·refine aL ?_;refine lB aM ?_;refine aL ?_;refine au ?_;rw[if_neg (by omega)];exact ay func55 rfl ⟨rfl,ah⟩
 refine ye ?_;refine lB aM ?_;by_cases h4:N<0
 ·refine ye ?_;refine au ?_;rw[if_pos (.inl ⟨h3,.inl h4⟩)];exact ay func55 rfl ⟨rfl,ah⟩
 refine aL ?_;refine lB aM ?_;by_cases h5:3000<N
 ·refine ye ?_;refine au ?_;rw[if_pos (.inl ⟨h3,.inr h5⟩)];exact ay func55 rfl ⟨rfl,ah⟩
 refine aL ?_;refine lB aM ?_;by_cases h6:kd=3
 ·refine ye ?_;refine lB aM ?_;by_cases h7:K<0
  ·refine ye ?_;refine au ?_;rw[if_pos (.inr ⟨h6,h7⟩)];exact ay func55 rfl ⟨rfl,ah⟩
  refine aL ?_;refine au ?_;rw[if_neg (by omega)];exact ay func55 rfl ⟨rfl,ah⟩
 refine aL ?_;refine au ?_;rw[if_neg (by omega)];exact ay func55 rfl ⟨rfl,ah⟩
section
variable{nw:List Is→List Int→Md→List Int→List Int}{vs:List aJ}{body:List ST}{inp:List Int}{z:Lz}{i:Nat}
theorem jH.mono(h:jH vs body inp z i){j:Nat}(q_:i≤j):jH vs body inp z j:=let⟨⟨a,b⟩,g,h1,h2⟩:=h;⟨⟨a,by omega⟩,g,Nat.le_trans h1 q_,h2⟩
theorem XV(s:Sp)(z:Lz):(pF nw (bB vs body) inp s z).2≤(if 0<s.2.1∧s.2.1≤3000 then s.2.1.toNat else 0):=by
 unfold pF;by_cases hf:jA s=0
 ·rw[if_pos hf,(Km _ _ _ z).2];by_cases h2:s.1=2
  ·unfold uF;rw[if_pos h2];exact Nat.zero_le _
  ·have hN:0≤s.2.1∧s.2.1≤3000:=by
    unfold jA at hf;split at hf
    ·omega
    ·split at hf
     ·omega
     ·rename_i h1 h3
      constructor
      ·exact Int.not_lt.1 fun h=>h3 (.inl ⟨h2,.inl h⟩)
      ·exact Int.not_lt.1 fun h=>h3 (.inl ⟨h2,.inr h⟩)
   have:=alb (bB vs body) inp s.1 s.2.1.toNat (qd s) z.lf;split<;>omega
 ·rw[if_neg hf];exact Nat.zero_le _
theorem jH.step(h:jH vs body inp z i)(s:Sp):jH vs body inp (pF nw (bB vs body) inp s z).1 (i+(pF nw (bB vs body) inp s z).2):=by
 obtain⟨⟨k1,k2⟩,g,h1,h2⟩:=h;unfold pF;by_cases hf:jA s=0
 ·rw[if_pos hf];obtain⟨e1,e2⟩:=Km (nw:=nw) (L:=bB vs body) (inp:=inp) s.1 s.2.1.toNat (qd s) z;obtain⟨g',a1,a2,a3⟩:=h2.Z7 s.1 s.2.1.toNat (qd s);obtain⟨k3,k4⟩:=aka (nw:=nw) (L:=bB vs body) (inp:=inp) s.1 s.2.1.toNat (qd s) z;refine⟨⟨by omega,by omega⟩,g',by rw[e2];omega,?_⟩;rw[e1];exact a3
 ·rw[if_neg hf];exact⟨⟨k1,by simp only;omega⟩,g,by omega,h2⟩
theorem jH.alN(h:jH vs body inp z i)(s:Sp):jH vs body inp (pF nw (bB vs body) inp s z).1 (i+(if 0<s.2.1∧s.2.1≤3000 then s.2.1.toNat else 0)):=(h.step s).mono (Nat.add_le_add_left (XV s z) i)
theorem jH.aF(h:jH vs body inp z i)(cX:dq vs body=0)(bw:cu body≤1000):z.lf.p.1.length≤i∧z.lf.m.cells.length≤48∧z.lf.p.2=false:=by
 obtain⟨_,g,h1,a,b,e1,e2,e3,_,_⟩:=h;obtain⟨c,hc,Al,hP⟩:=zv cX bw;have lI:c=(aT vs).toNat:=by omega
 obtain⟨_,b2,_⟩:=DB (W:=bB vs body) (inp:=inp) (c:=(aT vs).toNat) g;have hf:=Bz (inp:=inp) hP.rk hP.jmp a;rw[lI]at hf;have ek:=hf.cells;refine⟨by rw[e3];omega,?_,by rw[e3];exact(yl g).2⟩;have:((z.lf.m.cells.length:Nat):Int)=((aT vs).toNat:Nat):=by rw[e1];exact ek
 omega
end
theorem tQ{w w':World}{b i:Nat}{v:Value}(hk:ae [] w w')(hc:w.cell? ⟨b,i,none⟩=some v):w'.cell? ⟨b,i,none⟩=some v:=by
 have hb:b<w.heap.size:=by
  rcases Nat.lt_or_ge b w.heap.size with h|h
  ·exact h
  ·exfalso;have hn:w.heap[b]?=none:=Array.getElem?_eq_none h;simp[World.cell?,hn]at hc
 rw[World.cell?_of_block (w:=w) (hk.block b hb (by simp))];exact hc
def Zl(v:Value)(g:Nat):Prop:=∀b q n c,v=.slice (some ⟨b,q,none⟩) n c→0<n→b≠g
theorem Nw.YV{w:World}{v:Value}{g:Nat}(h:Nw w v)(hg:g<w.heap.size):Zl v g:=fun b q n c he h0=>by
 have:=h b q n c he h0;omega
theorem eS.Zm{w w':World}{v:Value}{l:List Int}{g:Nat}(h:eS w v l)(hk:ae [g] w w')(hn:Zl v g):eS w' v l:=by
 obtain⟨a,k,rfl,h2⟩:=h;refine⟨a,k,rfl,fun h0=>?_⟩;obtain⟨b,q,rfl,h3,h4⟩:=h2 h0;exact⟨b,q,rfl,Nat.lt_of_lt_of_le h3 hk.size,ft h4 hk h3 (by simpa using hn b q _ k rfl h0)⟩
theorem Nw.low{w w':World}{v:Value}(h:Nw w' v)(hk:w.heap.size≤w'.heap.size):Nw w v:=fun b q n c he h0=>Nat.le_trans hk (h b q n c he h0)
theorem eS.form{w:World}{v:Value}{l:List Int}(h:eS w v l):∃a k,v=.slice a l.length k:=let⟨a,k,h,_⟩:=h;⟨a,k,h⟩
abbrev bp:=Int×Int
def aF{α β:Type}(x:Except bp α)(f:α→Except bp β):Except bp β:=match x with
 |.error e=>.error e
 |.ok a=>f a
def sQ:Nat→List UInt8
 |1=>[110,117,109]
 |2=>[118,97,114]
 |3=>[103,101,116]
 |4=>[97,100,100]
 |5=>[115,117,98]
 |6=>[109,117,108]
 |7=>[108,101,115,115]
 |8=>[115,97,109,101]
 |_=>[]
def ub:Nat→List UInt8
 |1=>[115,101,116]
 |2=>[112,117,116]
 |3=>[112,114,105,110,116]
 |4=>[114,101,97,100]
 |5=>[119,104,105,108,101]
 |6=>[105,102]
 |7=>[99,111,109,109,105,116]
 |_=>[]
def mZ:List UInt8:=[108,101,116]
section
variable(ts:List Tok)(fin:Nat)
def dG(code:Int)(i:Nat):bp:=match ts[i]?with
 |some t=>(code,(t.pos:Nat))
 |none=>(if code=5 then 6 else code,(fin:Nat))
def eg(i:Nat)(s:List UInt8):Bool:=match ts[i]?with
 |some t=>!t.num&&t.text==s
 |none=>false
def eu(s:List UInt8)(i:Nat):Except bp Nat:=if eg ts i s then .ok (i+1)else .error (dG ts fin 5 i)
def fT(i:Nat):Except bp (Int×Nat):=match ts[i]?with
 |some t=>if t.num then .ok (t.val,i+1)else .error (dG ts fin 5 i)
 |none=>.error (dG ts fin 5 i)
def rU(l:List UInt8):Bool:=l.all fz&&decide (1≤l.length)&&decide (l.length≤8)
def gu(i:Nat):Except bp (List UInt8×Nat):=match ts[i]?with
 |some t=>if rU t.text then .ok (t.text,i+1)else .error (dG ts fin 5 i)
 |none=>.error (dG ts fin 5 i)
def pw:List aJ→List UInt8→Option Nat
 |[],_=>none
 |x::r,s=>if x.1.data.toList==s then some 0 else(pw r s).map (·+1)
def kq(vs:List aJ)(i:Nat):Except bp (Nat×Nat):=
 aF (gu ts fin i) fun(s,j)=>match pw vs s with
  |some k=>.ok (k,j)
  |none=>.error (dG ts fin 10 i)
def mo(of:Nat→List UInt8)(i:Nat):Nat→Nat→Option Nat
 |_,0=>none
 |k,n+1=>if eg ts i (of k)then some k else mo of i (k+1) n
def lR(of:Nat→List UInt8)(most i:Nat):Except bp (Nat×Nat):=
 aF (eu ts fin [40] i) fun j=>match mo ts of j 1 most with
  |some k=>.ok (k,j+1)
  |none=>.error (dG ts fin 5 j)
def kI{α:Type}(one:Nat→Except bp (α×Nat)):Nat→Nat→Except bp (List α×Nat)
 |0,i=>.ok ([],i)
 |m+1,i=>aF (one i) fun(t,j)=>aF (kI one m j) fun(r,k)=>.ok (t::r,k)
def cQ{α:Type}(stop:Nat→Bool)(one:Nat→Except bp (α×Nat)):Nat→Nat→Except bp (List α×Nat)
 |0,_=>.error (0,0)
 |m+1,i=>if stop i then .ok ([],i)else aF (one i) fun(t,j)=>aF (cQ stop one m j) fun(r,k)=>.ok (t::r,k)
def gM(vs:List aJ):Nat→Nat→Except bp (ET×Nat)
 |0,i=>.error (dG ts fin 4 i)
 | f+1,i=>aF (lR ts fin sQ 8 i) fun(k,i1)=>
   aF (if k=1 then fT ts fin i1 else .ok (0,i1)) fun(n,i2)=>
   aF (if k=2∨k=3 then kq ts fin vs i2 else .ok (0,i2)) fun(v,i3)=>
   aF (kI (gM vs f) (partsOf (k:Nat)).toNat i3) fun(l,i4)=>
   aF (eu ts fin [41] i4) fun i5=>.ok (.mk (k:Nat) (v:Nat) n l,i5)
def jC(one:Nat→Except bp (ST×Nat))(i:Nat):Except bp (List ST×Nat):=
 aF (eu ts fin [40] i) fun j=>aF (cQ (fun j=>eg ts j [41]) one (ts.length+1-j) j) fun(l,k)=>aF (eu ts fin [41] k) fun m=>.ok (l,m)
def ie(vs:List aJ):Nat→Nat→Except bp (ST×Nat)
 |0,i=>.error (dG ts fin 4 i)
 | f+1,i=>aF (lR ts fin ub 7 i) fun(k,i1)=>
   aF (if iA (k:Nat)then kq ts fin vs i1 else .ok (0,i1)) fun(v,i2)=>
   aF (if dw (k:Nat)then gM ts fin vs f i2 else .ok (fK,i2)) fun(e,i3)=>
   aF (if cY (k:Nat)then gM ts fin vs f i3 else .ok (fK,i3)) fun(g,i4)=>
   aF (if mn (k:Nat)then jC ts fin (ie vs f) i4 else .ok ([],i4)) fun(b,i5)=>
   aF (if lz (k:Nat)then jC ts fin (ie vs f) i5 else .ok ([],i5)) fun(o,i6)=>
   aF (eu ts fin [41] i6) fun i7=>.ok (.mk (k:Nat) (v:Nat) e g b o,i7)
def iD(n:Int):Int:=if 1≤n∧n≤48 then n else 0
def jc(i:Nat):Except bp (aJ×Nat):=aF (gu ts fin (i+1)) fun(s,j)=>aF (fT ts fin j) fun(n,k)=>.ok ((str s,iD n),k)
def KJ(i:Nat):Except bp (List aJ×Nat):=cQ (fun j=>!eg ts j mZ) (jc ts fin) (ts.length+1-i) i
def rS(vs:List aJ)(i:Nat):Except bp (List ST×Nat):=cQ (fun j=>decide (ts.length≤j)) (ie ts fin vs 13) (ts.length+1-i) i
def pt:Except bp (List aJ×List ST):=aF (KJ ts fin 0) fun(vs,i)=>aF (rS ts fin vs i) fun(b,_)=>.ok (vs,b)
def Bv:Except bp (List aJ×List ST):=aF (pt ts fin) fun(vs,b)=>if dq vs b≠0 then .error (dq vs b,-1)else .ok (vs,b)
end
def rk{α:Type}:Except bp α→Except bp α→Prop
 |.ok a,.ok b=>a=b
 |.error _,.error _=>True
 |_,_=>False
theorem cM{α β:Type}{x:Except bp α}{f:α→Except bp β}{b:β}(h:aF x f=.ok b):∃a,x=.ok a∧f a=.ok b:=by
 cases x with
 |error e=>cases h
 |ok a=>exact⟨a,rfl,h⟩
section
variable{ts:List Tok}{fin:Nat}
theorem DT{i:Nat}{s:List UInt8}(h:eg ts i s=true):i<ts.length:=by
 unfold eg at h;split at h
 ·rename_i t ht;exact(List.getElem?_eq_some_iff.1 ht).1
 ·cases h
theorem sD{s:List UInt8}{i j:Nat}(h:eu ts fin s i=.ok j):j=i+1∧i<ts.length∧eg ts i s=true:=by
 unfold eu at h;split at h
 ·rename_i ht
  injection h with h;exact⟨h.symm,DT ht,ht⟩
 ·cases h
theorem OR{i:Nat}{r:Int×Nat}(h:fT ts fin i=.ok r):r.2=i+1∧i<ts.length:=by
 unfold fT at h;split at h
 ·rename_i t ht
  split at h
  ·injection h with h;subst h;exact⟨rfl,(List.getElem?_eq_some_iff.1 ht).1⟩
  ·cases h
 ·cases h
theorem W9{i:Nat}{r:List UInt8×Nat}(h:gu ts fin i=.ok r):r.2=i+1∧i<ts.length:=by
 unfold gu at h;split at h
 ·rename_i t ht
  split at h
  ·injection h with h;subst h;exact⟨rfl,(List.getElem?_eq_some_iff.1 ht).1⟩
  ·cases h
 ·cases h
theorem J7{vs:List aJ}{i:Nat}{r:Nat×Nat}(h:kq ts fin vs i=.ok r):r.2=i+1∧i<ts.length:=by
 unfold kq at h;obtain⟨⟨s,j⟩,h1,h2⟩:=cM h;have h3:=W9 h1
 dsimp only at h2 h3
 split at h2
 ·injection h2 with h2;subst h2;exact h3
 ·cases h2
theorem W_{of:Nat→List UInt8}{i:Nat}:∀{n k r:Nat},mo ts of i k n=some r→k≤r∧r<k+n∧eg ts i (of r)=true
 |0,_,_,h=>by cases h
 | n+1,k,r,h=>by
  unfold mo at h;split at h
  ·rename_i ht
   injection h with h;subst h;exact⟨Nat.le_refl _,by omega,ht⟩
  ·have:=W_ h;exact⟨by omega,by omega,this.2.2⟩
theorem Bb{of:Nat→List UInt8}{most i:Nat}{r:Nat×Nat}(h:lR ts fin of most i=.ok r):r.2=i+2∧i+1<ts.length∧1≤r.1∧r.1≤most:=by
 unfold lR at h;obtain⟨j,h1,h2⟩:=cM h;obtain⟨rfl,h3,_⟩:=sD h1;split at h2
 ·rename_i k hk
  injection h2 with h2;subst h2;have:=W_ hk;exact⟨rfl,DT this.2.2,this.1,by omega⟩
 ·cases h2
theorem Xa{α:Type}{one:Nat→Except bp (α×Nat)}(h1:∀i r,one i=.ok r→i<r.2∧r.2≤ts.length):∀(m i:Nat) (r:List α×Nat),i≤ts.length→kI one m i=.ok r→i≤r.2∧r.2≤ts.length∧r.1.length=m
 |0,i,r,hi,h=>by
  injection h with h;subst h;exact⟨Nat.le_refl _,hi,rfl⟩
 |m+1,i,r,hi,h=>by
  obtain⟨⟨t,j⟩,ha,hb⟩:=cM h;obtain⟨⟨r',k⟩,hc,hd⟩:=cM hb;injection hd with hd;subst hd;have e1:=h1 _ _ ha;have e2:=Xa h1 m j _ e1.2 hc
  dsimp only at e1 e2⊢
  simp only[List.length_cons];omega
theorem A_{α:Type}{st:Nat→Bool}{one:Nat→Except bp (α×Nat)}(h1:∀i r,one i=.ok r→i<r.2∧r.2≤ts.length):∀(m i:Nat) (r:List α×Nat),i≤ts.length→cQ st one m i=.ok r→i≤r.2∧r.2≤ts.length∧st r.2=true
 |0,_,_,_,h=>by cases h
 | m+1,i,r,hi,h=>by
  unfold cQ at h;split at h
  ·rename_i hs
   injection h with h;subst h;exact⟨Nat.le_refl _,hi,hs⟩
  ·obtain⟨⟨t,j⟩,ha,hb⟩:=cM h;obtain⟨⟨r',k⟩,hc,hd⟩:=cM hb;injection hd with hd;subst hd;have e1:=h1 _ _ ha;have e2:=A_ h1 m j _ e1.2 hc
   dsimp only at e1 e2⊢
   exact⟨by omega,e2.2.1,e2.2.2⟩
theorem Dg{α:Type}{st:Nat→Bool}{one:Nat→Except bp (α×Nat)}(h1:∀i r,one i=.ok r→i<r.2∧r.2≤ts.length):∀(m n i:Nat),i≤ts.length→ts.length<m+i→ts.length<n+i→cQ st one m i=cQ st one n i
 |0,_,_,_,h,_=>by omega
 |_+1,0,_,_,_,h=>by omega
 | m+1,n+1,i,hi,hm,hn=>by
  unfold cQ;split
  ·rfl
  ·cases ha:one i with
   |error e=>rfl
   |ok r=>
    obtain⟨t,j⟩:=r;have e1:=h1 _ _ ha
    dsimp only at e1
    show aF (cQ st one m j) _=aF (cQ st one n j) _;rw[Dg h1 m n j e1.2 (by omega) (by omega)]
theorem F9(vs:List aJ):∀(f i:Nat) (r:ET×Nat),gM ts fin vs f i=.ok r→i<r.2∧r.2≤ts.length
 |0,_,_,h=>by cases h
 | f+1,i,r,h=>by
  unfold gM at h;obtain⟨⟨k,i1⟩,h1,h⟩:=cM h;obtain⟨⟨n,i2⟩,h2,h⟩:=cM h;obtain⟨⟨v,i3⟩,h3,h⟩:=cM h;obtain⟨⟨l,i4⟩,h4,h⟩:=cM h;obtain⟨i5,h5,h⟩:=cM h;injection h with h;subst h;have e1:=Bb h1
  dsimp only at e1 h2 h3 h4 h5⊢
  have e2:i1≤i2∧i2≤ts.length:=by
   split at h2
   ·have:=OR h2;dsimp only at this;omega
   ·injection h2 with h2;injection h2 with _ h2;omega
  have e3:i2≤i3∧i3≤ts.length:=by
   split at h3
   ·have:=J7 h3;dsimp only at this;omega
   ·injection h3 with h3;injection h3 with _ h3;omega
  have e4:=Xa (F9 vs f) _ _ _ e3.2 h4;have e5:=sD h5
  dsimp only at e4
  omega
theorem Xb{one:Nat→Except bp (ST×Nat)}(iQ:∀i r,one i=.ok r→i<r.2∧r.2≤ts.length){i:Nat}{r:List ST×Nat}(h:jC ts fin one i=.ok r):i<r.2∧r.2≤ts.length:=by
 unfold jC at h;obtain⟨j,h1,h⟩:=cM h;obtain⟨⟨l,k⟩,h2,h⟩:=cM h;obtain⟨m,h3,h⟩:=cM h;injection h with h;subst h;have e1:=sD h1;have e2:=A_ iQ _ _ _ (by omega) h2;have e3:=sD h3
 dsimp only at e2⊢
 omega
theorem qI(vs:List aJ):∀(f i:Nat) (r:ST×Nat),ie ts fin vs f i=.ok r→i<r.2∧r.2≤ts.length
 |0,_,_,h=>by cases h
 | f+1,i,r,h=>by
  unfold ie at h;obtain⟨⟨k,i1⟩,h1,h⟩:=cM h;obtain⟨⟨v,i2⟩,h2,h⟩:=cM h;obtain⟨⟨e,i3⟩,h3,h⟩:=cM h;obtain⟨⟨g,i4⟩,h4,h⟩:=cM h;obtain⟨⟨b,i5⟩,h5,h⟩:=cM h;obtain⟨⟨o,i6⟩,h6,h⟩:=cM h;obtain⟨i7,h7,h⟩:=cM h;injection h with h;subst h;have e1:=Bb h1
  dsimp only at e1 h2 h3 h4 h5 h6 h7⊢
  have e2:i1≤i2∧i2≤ts.length:=by
   split at h2
   ·have:=J7 h2;dsimp only at this;omega
   ·injection h2 with h2;injection h2 with _ h2;omega
  have e3:i2≤i3∧i3≤ts.length:=by
   split at h3
   ·have:=F9 vs f _ _ h3;dsimp only at this;omega
   ·injection h3 with h3;injection h3 with _ h3;omega
  have e4:i3≤i4∧i4≤ts.length:=by
   split at h4
   ·have:=F9 vs f _ _ h4;dsimp only at this;omega
   ·injection h4 with h4;injection h4 with _ h4;omega
  have e5:i4≤i5∧i5≤ts.length:=by
   split at h5
   ·have:=Xb (qI vs f) h5;dsimp only at this;omega
   ·injection h5 with h5;injection h5 with _ h5;omega
  have e6:i5≤i6∧i6≤ts.length:=by
   split at h6
   ·have:=Xb (qI vs f) h6;dsimp only at this;omega
   ·injection h6 with h6;injection h6 with _ h6;omega
  have e7:=sD h7;omega
theorem uR{i:Nat}{r:aJ×Nat}(h:jc ts fin i=.ok r):i<r.2∧r.2≤ts.length:=by
 unfold jc at h;obtain⟨⟨s,j⟩,h1,h⟩:=cM h;obtain⟨⟨n,k⟩,h2,h⟩:=cM h;injection h with h;subst h;have e1:=W9 h1;have e2:=OR h2
 dsimp only at e1 e2⊢
 omega
end
section
open Go.Lib
abbrev Tk:=List UInt8×Bool×Int
def tri(t:Tok):Tk:=(t.text,t.num,t.val)
theorem agm(n:Int):∃c u,itoa n=c::u∧(cU c||c==45)=true∧u.all cU=true:=by
 unfold itoa;split
 ·exact⟨45,_,rfl,by decide,Tb _⟩
 ·cases h:decDigits n.toNat with
  |nil=>exact absurd h (adF _)
  |cons c u=>
   have hd:=Tb n.toNat;rw[h,List.all_cons,Bool.and_eq_true]at hd;exact⟨c,u,rfl,by rw[hd.1];rfl,hd.2⟩
end
section
open Go.Lib
def KQ(vs:List aJ)(v:Nat):List UInt8:=(vs.getD v (⟨#[]⟩,0)).1.data.toList
def MR:Tk:=([40],false,0)
def cls:Tk:=([41],false,0)
def AV(w:List UInt8):Tk:=(w,false,0)
def nmb(n:Int):Tk:=(itoa n,true,n)
mutual
def Pj(vs:List aJ):ET→List UInt8
 |.mk op v n l=>40::(sQ op.toNat++((if op=1 then 32::itoa n else[])++((if op=2∨op=3 then 32::KQ vs v.toNat else[])++(Yn vs l++[41]))))
def Yn(vs:List aJ):List ET→List UInt8
 |[]=>[]
 |t::r=>32::(Pj vs t++Yn vs r)
end
mutual
def QY(vs:List aJ):ET→List Tk
 |.mk op v n l=>MR::AV (sQ op.toNat)::((if op=1 then[nmb n]else[])++((if op=2∨op=3 then[AV (KQ vs v.toNat)]else[])++(Zs vs l++[cls])))
def Zs(vs:List aJ):List ET→List Tk
 |[]=>[]
 |t::r=>QY vs t++Zs vs r
end
mutual
def alj(vs:List aJ):ST→List UInt8
 | .mk op v e f b o=>40::(ub op.toNat++((if iA op then 32::KQ vs v.toNat else[])++((if dw op then 32::Pj vs e else[])++((if cY op then 32::Pj vs f else[])++
   ((if mn op then 32::40::(OT vs false b++[41])else[])++((if lz op then 32::40::(OT vs false o++[41])else[])++[41]))))))
def OT(vs:List aJ):Bool→List ST→List UInt8
 |_,[]=>[]
 |c,t::r=>(if c then[32]else[])++(alj vs t++OT vs true r)
end
mutual
def aon(vs:List aJ):ST→List Tk
 | .mk op v e f b o=>MR::AV (ub op.toNat)::((if iA op then[AV (KQ vs v.toNat)]else[])++((if dw op then QY vs e else[])++((if cY op then QY vs f else[])++
   ((if mn op then MR::(PU vs b++[cls])else[])++((if lz op then MR::(PU vs o++[cls])else[])++[cls])))))
def PU(vs:List aJ):List ST→List Tk
 |[]=>[]
 |t::r=>aon vs t++PU vs r
end
def dm(n:Int):Prop:=-9223372036854775808≤n∧n≤9223372036854775807
mutual
def yq:ET→Prop
 |.mk _ _ n l=>dm n∧By l
def By:List ET→Prop
 |[]=>True
 |t::r=>yq t∧By r
end
mutual
def DS:ST→Prop
 |.mk _ _ e f b o=>yq e∧yq f∧oK b∧oK o
def oK:List ST→Prop
 |[]=>True
 |t::r=>DS t∧oK r
end
end
section
open Go.Lib
def At(ts:List Tok)(i:Nat)(K:List Tk):Prop:=∀(j:Nat) (x:Tk),K[j]?=some x→∃t,ts[i+j]?=some t∧tri t=x
def One(ts:List Tok)(i:Nat)(x:Tk):Prop:=∃t,ts[i]?=some t∧tri t=x
end
def kg(l:List UInt8):Int×Int:=
 if 6000<l.length then(3,6000)else match qc l with
  |.error e=>(7,((e:Nat):Int))
  |.ok _=>(0,0)
def lS(l:List UInt8):List Tok:=
 if 6000<l.length then[]else match qc l with
  |.error _=>[]
  |.ok ts=>ts
theorem Xx{l:List UInt8}{i:Nat}(h:i<l.length):∃c r,l.drop i=c::r∧l[i]?=some c∧l.drop (i+1)=r:=by
 refine⟨l[i],l.drop (i+1),List.drop_eq_getElem_cons h,List.getElem?_eq_getElem h,rfl⟩
theorem Kd{c:UInt8}{r t:List UInt8}{b:Bool}{v:Int}(h:bit c r=.tok t b v):1≤t.length∧t.length≤(c::r).length:=by
 obtain⟨u,q,rfl,rfl,_⟩:=DN h;simp only[List.length_cons,List.length_append];omega
theorem adR{c:UInt8}{r:List UInt8}(kZ:pq c=false):bit c r≠.skip:=by
 intro jn;unfold bit at jn;rw[kZ]at jn;split at jn
 ·rename_i h;cases h
 ·split at jn
  ·cases jn
  ·split at jn
   ·cases jn
   ·split at jn
    ·split at jn<;>cases jn
    ·cases jn
theorem Db{l:List UInt8}{e:Nat}(hn:¬6000<l.length)(h:qc l=.error e):kg l=(7,((e:Nat):Int))∧lS l=[]:=by
 unfold kg lS;rw[if_neg hn,if_neg hn,h];exact⟨rfl,rfl⟩
theorem Jl{l:List UInt8}{ts:List Tok}(hn:¬6000<l.length)(h:qc l=.ok ts):kg l=(0,0)∧lS l=ts:=by
 unfold kg lS;rw[if_neg hn,if_neg hn,h];exact⟨rfl,rfl⟩
theorem Ue(l:List UInt8)(hl:l.length≤6000):(∃e:Nat,kg l=(7,((e:Nat):Int))∧lS l=[])∨(∃ts,qc l=.ok ts∧kg l=(0,0)∧lS l=ts):=by
 cases h:qc l with
 |error e=>exact .inl ⟨e,Db (by omega) h⟩
 |ok ts=>exact .inr ⟨ts,rfl,Jl (by omega) h⟩
section
open Go.Lib
def DW(ts:List Tok):Prop:=∀t∈ts,dm t.val
theorem ai7{c:UInt8}{r t:List UInt8}{b:Bool}{v:Int}(h:bit c r=.tok t b v):dm v:=by
 unfold bit at h;split at h
 ·cases h
 split at h
 ·injection h with _ _ h;subst h;exact⟨by decide,by decide⟩
 split at h
 ·injection h with _ _ h;subst h;exact⟨by decide,by decide⟩
 split at h
 ·split at h
  ·rename_i w hw
   injection h with _ _ h;subst h;have:=Nf hw;exact⟨this.2.1,this.2.2.1⟩
  ·cases h
 ·cases h
theorem VZ:∀{ts:List Tok},uj ts→DW ts
 |[],_=>fun t ht=>by simp at ht
 |x::r,h=>by
  obtain⟨⟨c,u,r0,_,h2⟩,h3⟩:=h;intro t ht;rcases List.mem_cons.1 ht with rfl|ht
  ·exact ai7 h2
  ·exact VZ h3 t ht
theorem agw{l:List UInt8}{ts:List Tok}(h:qc l=.ok ts):DW ts:=VZ (F0 _ _ _ _ h).1
section
variable{ts:List Tok}{fin:Nat}
theorem ag8(hl:DW ts){i:Nat}{r:Int×Nat}(h:fT ts fin i=.ok r):dm r.1:=by
 unfold fT at h;split at h
 ·rename_i t ht
  split at h
  ·injection h with h;subst h;exact hl t (List.mem_of_getElem? ht)
  ·cases h
 ·cases h
theorem U0{one:Nat→Except bp (ET×Nat)}(h1:∀i r,one i=.ok r→yq r.1):∀(m i:Nat) (r:List ET×Nat),kI one m i=.ok r→By r.1
 |0,i,r,h=>by injection h with h;subst h;simp only[By]
 |m+1,i,r,h=>by
  obtain⟨⟨t,j⟩,ha,hb⟩:=cM h;obtain⟨⟨r',k⟩,hc,hd⟩:=cM hb;injection hd with hd;subst hd;simp only[By];exact⟨h1 _ _ ha,U0 h1 m j _ hc⟩
theorem Nk{st:Nat→Bool}{one:Nat→Except bp (ST×Nat)}(h1:∀i r,one i=.ok r→DS r.1):∀(m i:Nat) (r:List ST×Nat),cQ st one m i=.ok r→oK r.1
 |0,_,_,h=>by cases h
 | m+1,i,r,h=>by
  unfold cQ at h;split at h
  ·injection h with h;subst h;simp only[oK]
  ·obtain⟨⟨t,j⟩,ha,hb⟩:=cM h;obtain⟨⟨r',k⟩,hc,hd⟩:=cM hb;injection hd with hd;subst hd;simp only[oK];exact⟨h1 _ _ ha,Nk h1 m j _ hc⟩
theorem Nz(hl:DW ts)(vs:List aJ):∀(f i:Nat) (r:ET×Nat),gM ts fin vs f i=.ok r→yq r.1
 |0,_,_,h=>by cases h
 |f+1,i,r,h=>by
  unfold gM at h;obtain⟨⟨k,i1⟩,h1,h⟩:=cM h;obtain⟨⟨n,i2⟩,h2,h⟩:=cM h;obtain⟨⟨v,i3⟩,h3,h⟩:=cM h;obtain⟨⟨l,i4⟩,h4,h⟩:=cM h;obtain⟨i5,h5,h⟩:=cM h;injection h with h;subst h;simp only[yq];refine⟨?_,U0 (Nz hl vs f) _ _ _ h4⟩;split at h2
  ·exact ag8 hl h2
  ·injection h2 with h2;injection h2 with h2 _;subst h2;exact⟨by decide,by decide⟩
theorem U1:yq fK:=by
 simp only[fK,yq,By,and_true];exact⟨by decide,by decide⟩
theorem U2{one:Nat→Except bp (ST×Nat)}(h1:∀i r,one i=.ok r→DS r.1){i:Nat}{r:List ST×Nat}(h:jC ts fin one i=.ok r):oK r.1:=by
 unfold jC at h;obtain⟨j,_,h⟩:=cM h;obtain⟨⟨l,k⟩,h2,h⟩:=cM h;obtain⟨m,_,h⟩:=cM h;injection h with h;subst h;exact Nk h1 _ _ (l,k) h2
theorem NA(hl:DW ts)(vs:List aJ):∀(f i:Nat) (r:ST×Nat),ie ts fin vs f i=.ok r→DS r.1
 |0,_,_,h=>by cases h
 | f+1,i,r,h=>by
  unfold ie at h;obtain⟨⟨k,i1⟩,h1,h⟩:=cM h;obtain⟨⟨v,i2⟩,h2,h⟩:=cM h;obtain⟨⟨e,i3⟩,h3,h⟩:=cM h;obtain⟨⟨g,i4⟩,h4,h⟩:=cM h;obtain⟨⟨b,i5⟩,h5,h⟩:=cM h;obtain⟨⟨o,i6⟩,h6,h⟩:=cM h;obtain⟨i7,h7,h⟩:=cM h;injection h with h;subst h;simp only[DS];refine⟨?_,?_,?_,?_⟩
  ·split at h3
   ·exact Nz hl vs f _ _ h3
   ·injection h3 with h3;injection h3 with h3 _;subst h3;exact U1
  ·split at h4
   ·exact Nz hl vs f _ _ h4
   ·injection h4 with h4;injection h4 with h4 _;subst h4;exact U1
  ·split at h5
   ·exact U2 (NA hl vs f) h5
   ·injection h5 with h5;injection h5 with h5 _;subst h5;simp only[oK]
  ·split at h6
   ·exact U2 (NA hl vs f) h6
   ·injection h6 with h6;injection h6 with h6 _;subst h6;simp only[oK]
theorem ae_(hl:DW ts){vs:List aJ}{b:List ST}(h:pt ts fin=.ok (vs,b)):oK b:=by
 unfold pt at h;obtain⟨⟨E4,i⟩,_,h⟩:=cM h;obtain⟨⟨b',k⟩,h2,h⟩:=cM h;injection h with h;injection h with h3 h4;subst h3;subst h4;exact Nk (NA hl E4 13) _ _ _ h2
end
def j1(l:List UInt8):Except bp (List aJ×List ST):=if(kg l).1≠0 then .error (kg l)else Bv (lS l) l.length
theorem ae9{l:List UInt8}{r:List aJ×List ST}(h:j1 l=.ok r):∃ts,qc l=.ok ts∧l.length≤6000∧pt ts l.length=.ok r∧dq r.1 r.2=0:=by
 unfold j1 at h;split at h
 ·cases h
 ·rename_i hf
  by_cases hl:6000<l.length
  ·exfalso;apply hf;unfold kg;rw[if_pos hl];decide
  ·cases hs:qc l with
   |error e=>
    exfalso;apply hf;rw[(Db hl hs).1];show(7:Int)≠0;decide
   | ok ts=>
    rw[(Jl hl hs).2]at h;unfold Bv at h;obtain⟨⟨vs,b⟩,h1,h2⟩:=cM h
    dsimp only at h2
    split at h2
    ·cases h2
    ·rename_i hp
     injection h2 with h2;subst h2;exact⟨ts,rfl,by omega,h1,by simpa using hp⟩
end
section
variable{ts:List Tok}{fin:Nat}
theorem ag6{i:Nat}{r:List UInt8×Nat}(h:gu ts fin i=.ok r):r.1.length≤8:=by
 unfold gu at h;split at h
 ·rename_i t ht
  split at h
  ·rename_i hn
   injection h with h;subst h;simp only[rU,Bool.and_eq_true,decide_eq_true_eq]at hn;exact hn.2
  ·cases h
 ·cases h
theorem US{one:Nat→Except bp (ET×Nat)}(h1:∀i r,one i=.ok r→fO r.1+i≤r.2):∀(m i:Nat) (r:List ET×Nat),kI one m i=.ok r→iH r.1+i≤r.2
 |0,i,r,h=>by injection h with h;subst h;simp[iH]
 |m+1,i,r,h=>by
  obtain⟨⟨t,j⟩,ha,hb⟩:=cM h;obtain⟨⟨r',k⟩,hc,hd⟩:=cM hb;injection hd with hd;subst hd;have e1:=h1 _ _ ha;have e2:=US h1 m j _ hc
  dsimp only at e1 e2⊢
  simp only[iH];omega
theorem Nx(vs:List aJ):∀(f i:Nat) (r:ET×Nat),gM ts fin vs f i=.ok r→fO r.1+i≤r.2
 |0,_,_,h=>by cases h
 | f+1,i,r,h=>by
  unfold gM at h;obtain⟨⟨k,i1⟩,h1,h⟩:=cM h;obtain⟨⟨n,i2⟩,h2,h⟩:=cM h;obtain⟨⟨v,i3⟩,h3,h⟩:=cM h;obtain⟨⟨l,i4⟩,h4,h⟩:=cM h;obtain⟨i5,h5,h⟩:=cM h;injection h with h;subst h;have e1:=Bb h1
  dsimp only at e1
  have e2:i1≤i2:=by
   split at h2
   ·have:=OR h2;dsimp only at this;omega
   ·injection h2 with h2;injection h2 with _ h2;omega
  have e3:i2≤i3:=by
   split at h3
   ·have:=J7 h3;dsimp only at this;omega
   ·injection h3 with h3;injection h3 with _ h3;omega
  have e4:=US (Nx vs f) _ _ _ h4;have e5:=sD h5
  dsimp only at e4
  simp only[fO];omega
theorem Nj{st:Nat→Bool}{one:Nat→Except bp (ST×Nat)}(h1:∀i r,one i=.ok r→ll r.1+3*i≤3*r.2):∀(m i:Nat) (r:List ST×Nat),cQ st one m i=.ok r→cu r.1+3*i≤3*r.2
 |0,_,_,h=>by cases h
 | m+1,i,r,h=>by
  unfold cQ at h;split at h
  ·injection h with h;subst h;simp[cu]
  ·obtain⟨⟨t,j⟩,ha,hb⟩:=cM h;obtain⟨⟨r',k⟩,hc,hd⟩:=cM hb;injection hd with hd;subst hd;have e1:=h1 _ _ ha;have e2:=Nj h1 m j _ hc
   dsimp only at e1 e2⊢
   simp only[cu];omega
theorem UT{one:Nat→Except bp (ST×Nat)}(h1:∀i r,one i=.ok r→ll r.1+3*i≤3*r.2){i:Nat}{r:List ST×Nat}(h:jC ts fin one i=.ok r):cu r.1+3*i≤3*r.2:=by
 unfold jC at h;obtain⟨j,ha,h⟩:=cM h;obtain⟨⟨l,k⟩,h2,h⟩:=cM h;obtain⟨m,h3,h⟩:=cM h;injection h with h;subst h;have e1:=sD ha;have e2:=Nj h1 _ _ (l,k) h2;have e3:=sD h3
 dsimp only at e2⊢
 omega
theorem Jj(vs:List aJ):∀(f i:Nat) (r:ST×Nat),ie ts fin vs f i=.ok r→ll r.1+3*i≤3*r.2
 |0,_,_,h=>by cases h
 | f+1,i,r,h=>by
  unfold ie at h;obtain⟨⟨k,i1⟩,h1,h⟩:=cM h;obtain⟨⟨v,i2⟩,h2,h⟩:=cM h;obtain⟨⟨e,i3⟩,h3,h⟩:=cM h;obtain⟨⟨g,i4⟩,h4,h⟩:=cM h;obtain⟨⟨b,i5⟩,h5,h⟩:=cM h;obtain⟨⟨o,i6⟩,h6,h⟩:=cM h;obtain⟨i7,h7,h⟩:=cM h;injection h with h;subst h;have e1:=Bb h1
  dsimp only at e1
  have e2:i1≤i2:=by
   split at h2
   ·have:=J7 h2;dsimp only at this;omega
   ·injection h2 with h2;injection h2 with _ h2;omega
  have z1:fO fK=1:=rfl;have e3:fO e+i2≤i3+1:=by
   split at h3
   ·have:=Nx vs f _ _ h3;dsimp only at this;omega
   ·injection h3 with h3;injection h3 with h3 EI;subst h3;omega
  have e3':i2≤i3:=by
   split at h3
   ·have:=F9 vs f _ _ h3;dsimp only at this;omega
   ·injection h3 with h3;injection h3 with _ h3;omega
  have e4:fO g+i3≤i4+1:=by
   split at h4
   ·have:=Nx vs f _ _ h4;dsimp only at this;omega
   ·injection h4 with h4;injection h4 with h4 MF;subst h4;omega
  have e4':i3≤i4:=by
   split at h4
   ·have:=F9 vs f _ _ h4;dsimp only at this;omega
   ·injection h4 with h4;injection h4 with _ h4;omega
  have e5:cu b+3*i4≤3*i5:=by
   split at h5
   ·exact UT (Jj vs f) h5
   ·injection h5 with h5;injection h5 with h5 RM;subst h5;simp only[cu];omega
  have e6:cu o+3*i5≤3*i6:=by
   split at h6
   ·exact UT (Jj vs f) h6
   ·injection h6 with h6;injection h6 with h6 Sk;subst h6;simp only[cu];omega
  have e7:=sD h7;simp only[ll];omega
end
end E
end Go.Proofs.YtoigoojdbpbhoagGreatDoor
