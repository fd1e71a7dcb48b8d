/- Texts RpH DrB DrC DkP DrD DrE DkQ DkX DrF LiftT. -/
import Derived.Test.YtoigoojdbpbhoagGreatDoorJ13
import Derived.Test.YtoigoojdbpbhoagGreatDoorJ05
import Derived.Test.YtoigoojdbpbhoagGreatDoorJ04
import Derived.Test.YtoigoojdbpbhoagGreatDoorJ12
import Derived.Test.YtoigoojdbpbhoagGreatDoorRows
import Derived.Test.YtoigoojdbpbhoagGreatDoorJ02
import Derived.Deep.Slices
import Derived.ChangeArms
namespace Go.Proofs.YtoigoojdbpbhoagGreatDoor
set_option maxRecDepth 20000
set_option maxHeartbeats 4000000
namespace E
open Go.Proofs.Tryz
theorem ai8(a:Option Addr)(m c:Nat)(n:Int):prog.built 135 [(0,.slice a m c),(1,.int .i64 n)]=some [Value.slice a m c,.int .i64 n,.int .i64 0,.int .i64 0,.int .i64 0,.slice none 0 0].toArray:=by kernel_rfl
structure Ps(w w':World)(b b2 b3:Nat)(lv vv:Value)(fin:Nat)(ts:List Tok)(vs:List aJ)(X:Except bp Nat):Prop where
 rs:Rs w' b lv vv fin X
 own:Own w' w.heap.size 137 2 vv vs.length (vs.flatMap dR)
 cx:Cx w' lv vv ts vs
 hp:ak w' b2 pz 75
 hf:ak w' b3 [.int .i64 0,.int .i64 0] 34
 keep:ae [] w w'
 nm:∀y∈vs,y.1.size≤100000
section
variable{w w' cg:World}{b b2 b3 fin:Nat}{lv vv:Value}{ts:List Tok}{vs:List aJ}{X X':Except bp Nat}
theorem Ps.aA(h:Ps w w' b b2 b3 lv vv fin ts vs X)(hk:ae [] w' cg):Ps w cg b b2 b3 lv vv fin ts vs X:=
 ⟨h.rs.keep hk (by simp),h.own.keep hk (by simp),h.cx.aA hk,hk.af h.hp (by simp),hk.af h.hf (by simp),h.keep.tr hk,h.nm⟩
theorem Ps.KR(h:Ps w w' b b2 b3 lv vv fin ts vs X)(hb:w.heap.size≤b)(h2:b≠b2)(h3:b≠b3)(hk:ae [b] w' cg)(hr:Rs cg b lv vv fin X'):Ps w cg b b2 b3 lv vv fin ts vs X':=by
 obtain⟨i,fl,kZ⟩:=h.rs.af;exact⟨hr,h.own.keep hk (by intro k aK;simp;exact fun e=>fQ h.own kZ (by decide) k aK e.symm),h.cx.keep kZ hk,hk.af h.hp (by simp;exact fun e=>h2 e.symm),hk.af h.hf (by simp;exact fun e=>h3 e.symm),h.keep.aO hk hb,h.nm⟩
theorem Ps.nT{i:Nat}(h:Ps w w' b b2 b3 lv vv fin ts vs X)(hb:w.heap.size≤b)(h2:b≠b2)(h3:b≠b3)(hk:ae [b] w' cg)(hr:ak cg b (cO lv vv fin i (0,0)) 135):Ps w cg b b2 b3 lv vv fin ts vs (.ok i):=h.KR hb h2 h3 hk hr
theorem Ps.other{b7:Nat}{L:List Value}(h:Ps w w' b b2 b3 lv vv fin ts vs X)(hb:w.heap.size≤b7)(h1:b≠b7)(h2:b2≠b7)(h3:b3≠b7)(h7:ak w' b7 L 137)(hg:∀k,vv.ownBlock=some k→k<b7)(hk:ae [b7] w' cg):Ps w cg b b2 b3 lv vv fin ts vs X:=by
 obtain⟨B1,gx⟩:=h.cx.tok;have bW:=h.own.keep hk (by intro k aK;simp;have:=hg k aK;omega);exact⟨h.rs.keep hk (by simp;exact h1),bW,⟨⟨B1,gx.keep hk (by intro k aK;simp;exact fun e=>fQ gx h7 (by decide) k aK e.symm)⟩,⟨_,bW⟩,h.cx.len,h.cx.vk,h.cx.bI⟩,hk.af h.hp (by simp;exact h2),hk.af h.hf (by simp;exact h3),h.keep.aO hk hb,h.nm⟩
theorem Ps.prog{b9:Nat}{L:List Value}(h:Ps w w' b b2 b3 lv vv fin ts vs X)(hb:w.heap.size≤b9)(h1:b≠b9)(h2:b2≠b9)(h3:b3≠b9)(h9:ak w' b9 L 75)(hk:ae [b9] w' cg):Ps w cg b b2 b3 lv vv fin ts vs X:=by
 obtain⟨B1,gx⟩:=h.cx.tok;have bW:=h.own.keep hk (by intro k aK;simp;exact fun e=>fQ h.own h9 (by decide) k aK e.symm);exact⟨h.rs.keep hk (by simp;exact h1),bW,⟨⟨B1,gx.keep hk (by intro k aK;simp;exact fun e=>fQ gx h9 (by decide) k aK e.symm)⟩,⟨_,bW⟩,h.cx.len,h.cx.vk,h.cx.bI⟩,hk.af h.hp (by simp;exact h2),hk.af h.hf (by simp;exact h3),h.keep.aO hk hb,h.nm⟩
theorem Ps.app{B g ln m:Nat}{sl:Value}{xs:List Value}(h:Ps w w' b b2 b3 lv vv fin ts vs X)(hb:w.heap.size≤B)(h1:b<B)(h2:b2<B)(h3:b3<B)(bW:Own w' B 143 12 sl ln xs) (gy:(sl.ownBlock=some g∧ln+m≤sK sl∧ae [g] w' cg)∨(g=w'.heap.size∧ae [] w' cg∧cg.heap.size=w'.heap.size+1)):Ps w cg b b2 b3 lv vv fin ts vs X:=by
 have mM:=Y0 h.cx bW gy;rcases gy with⟨e1,_,hk⟩|⟨_,hk,_⟩
 ·have hg:=(bW.lt g e1).1;refine⟨h.rs.keep hk (by simp;omega),h.own.keep hk (fun k aK=>?_),mM,hk.af h.hp (by simp;omega),hk.af h.hf (by simp;omega),h.keep.aO hk (by omega),h.nm⟩;simp;intro e;subst e;rcases bW.2 with⟨hv,_⟩|⟨g',c',LB,hv,_,vR,_⟩
  ·rw[hv]at e1;simp[Value.ownBlock]at e1
  ·rw[hv]at e1;simp[Value.ownBlock]at e1;subst e1;exact fQ h.own vR (by decide) _ aK rfl
 ·exact h.aA hk
end
theorem ai9:prog.built 34 []=some [Value.int .i64 0,.int .i64 0].toArray:=by kernel_rfl
theorem ahe:dH prog 73 1=true:=by kernel_rfl
theorem afa(l:List UInt8)(hl:l.length≤100000){w:World}(hw:Lw w):aC prog 48 [.string (str l)] w fun r w'=>aaB w w' r (j1 l)∧ae [] w w':=by
 refine aG 98 func48 ?_;refine au ?_;refine aj (bO _ rfl sH ?_);intro w1 b2 Ch bt ah l8;refine aj (bO _ rfl o9 ?_);intro w2 b3 Hi cE an mF;have br:=ah.tr an;have gT:=an.af l8 (by simp);refine oC (ahf l (by omega) (hw.keep br)) ?_;rintro r w3⟨lv,rfl,bW,aw⟩;obtain⟨⟨fa,fb⟩,Q9⟩:∃p,p=kg l:=⟨_,rfl⟩;rw[←Q9];have yT:=aw.af gT (by simp);have ju:=aw.af mF (by simp);refine au ?_;refine aj (bO _ rfl o9 ?_);intro w4 b5 Ad cz ax hq4;refine au ?_;refine aj (aH [.int .i64 fa,.int .i64 fb] rfl gm hq4 (by simp) (gp _ _) ?_);intro w5 iV aE SP;rw[bs (by rfl)]at SP;have kN:ae [] w3 w5:=ax.aO aE (by omega);have lp:=kN.af yT (by simp);have lr:=kN.af ju (by simp);have qh:=bW.keep kN (by simp);have cK:=(br.tr aw).tr kN;have ar5:w2.heap.size≤w3.heap.size:=aw.size;refine lB SP ?_;have aol:b2≠b3:=by omega
 have B3:b2≠b5:=by omega
 have LH:b3≠b5:=by omega
 have EC:w.heap.size≤b2:=by omega
 have Q_:w.heap.size≤b3:=by omega
 --two answers are laid,and told
 have ar6:True:=trivial;by_cases AD:fa=0
 ·obtain⟨RO,hff,hlen,Ll⟩:=VY (l:=l) (by rw[←Q9];exact AD);obtain⟨ts,hts⟩:∃ts,ts=lS l:=⟨_,rfl⟩;rw[←hts]at qh hlen Ll;obtain⟨bq,fA⟩:∃bq,bq=j1 l:=⟨_,rfl⟩;rw[←fA];have gV:bq=aF (KJ ts l.length 0) (fun p=>BU ts l.length p.1 p.2):=by
   rw[fA];unfold j1;rw[hff,if_neg (by decide),←hts];unfold Bv pt;cases KJ ts l.length 0 with
   |error e=>rfl
   |ok p=>
    obtain⟨vs,i⟩:=p;show aF (aF (rS ts l.length vs i) _) _=aF (rS ts l.length vs i) _;cases rS ts l.length vs i<;>rfl
  obtain⟨fin,zW⟩:∃fin,fin=l.length:=⟨_,rfl⟩;rw[←zW]at gV;obtain⟨av,cv,rfl⟩:=qh.form;refine aL ?_;refine au ?_;refine ai _ (p_ l (by decide+kernel) rfl rfl w5) ?_;rw[←zW];refine ai _ (bL _ rfl rfl (ai8 av ts.length cv (fin:Nat)) w5) ?_;refine aj (bY (cO (.slice av ts.length cv) (.slice none 0 0) fin 0 (0,0)) rfl ?_);intro w6 b gI iI aD dM;obtain⟨lv,qw⟩:∃lv,lv=Value.slice av ts.length cv:=⟨_,rfl⟩;rw[←qw]at dM qh⊢;have ar7:w3.heap.size≤w5.heap.size:=kN.size;have mU:=qh.keep aD (by simp);have n7:Cx w6 lv (.slice none 0 0) ts []:=⟨⟨_,mU⟩,⟨0,Own.nil _ _ _ _⟩,by omega,by simp,fun t ht=>by have:=Ll t ht;omega⟩;have aoC:Ps w w6 b b2 b3 lv (.slice none 0 0) fin ts [] (.ok 0):=
   ⟨dM,Own.nil _ _ _ _,n7,aD.af lp (by simp),aD.af lr (by simp),cK.tr aD,fun y hy=>by simp at hy⟩
  have o6:w.heap.size≤b:=by have:=cK.size;omega
  have EE:b≠b2:=by omega
  have Ht:b≠b3:=by omega
  refine aP ?_;refine bT ?_;refine fx (fun σ' w'=>∃(X:Except bp Nat) (vs:List aJ) (vv:Value),bq=aF X (fun i=>BU ts fin vs i)∧(∀i,X=.ok i→vs.length≤i∧i≤ts.length)∧vs.length≤ts.length+1∧Ps w w' b b2 b3 lv vv fin ts vs X∧w6.heap.size≤w'.heap.size∧
   Sub [(2,.pointer (some ⟨b2,0,none⟩)),(3,.pointer (some ⟨b3,0,none⟩)),(4,lv),(6,.pointer (some ⟨b,0,none⟩))] σ') ?_ ?_
  rotate_left
  ·intro dy;refine pc ?_;refine cP (fun m σ w'=>∃(X:Except bp Nat) (vs:List aJ) (vv:Value),m=(match X with|.ok i=>ts.length+1-i|.error _=>0)∧σ=[(2,.pointer (some ⟨b2,0,none⟩)),(3,.pointer (some ⟨b3,0,none⟩)),(4,lv),(6,.pointer (some ⟨b,0,none⟩))]∧
    bq=aF X (fun i=>aF (cQ (fun j=>!eg ts j mZ) (jc ts fin) (ts.length+1-i) i) fun(r,k)=>BU ts fin (vs++r) k)∧(∀i,X=.ok i→vs.length≤i∧i≤ts.length)∧vs.length≤ts.length+1∧Ps w w' b b2 b3 lv vv fin ts vs X∧w6.heap.size≤w'.heap.size) (ts.length+1) _ ?_
    ⟨.ok 0,[],.slice none 0 0,rfl,rfl,gV,fun i hi=>by injection hi with hi;subst hi;exact⟨Nat.le_refl _,Nat.zero_le _⟩,Nat.zero_le _,aoC,Nat.le_refl _⟩ ?_
   ·exact⟨rfl,rfl,rfl,rfl,trivial⟩
   rintro m σ w7 ih⟨X,vs,vv,rfl,rfl,nt,IU,hv7,vp,aa6⟩;refine oC (Gp vp.cx vp.rs mZ) ?_;rintro r w8⟨rfl,aS⟩;have Hu:=vp.aA aS;have aoD:w6.heap.size≤w8.heap.size:=Nat.le_trans aa6 aS.size;obtain⟨q,hq⟩:∃q,q=C6 ts X mZ:=⟨_,rfl⟩;rw[←hq];cases q with
   | false=>
    refine aP ?_;refine dy _ _ ⟨X,vs,vv,?_,IU,hv7,Hu,aoD,rfl,rfl,rfl,rfl,trivial⟩;rw[nt];cases X with
    |error e=>rfl
    |ok i=>
     have hle:=(IU i rfl).2;have lL:eg ts i mZ=false:=hq.symm;have e:ts.length+1-i=(ts.length-i)+1:=by omega
     show aF (cQ _ _ (ts.length+1-i) i) _=BU ts fin vs i;rw[e,cQ,lL,if_pos (by decide)];show BU ts fin (vs++[]) i=_;rw[List.append_nil]
   | true=>
    cases X with
    |error e=>cases hq
    |ok i=>
    have lL:eg ts i mZ=true:=hq.symm;have az:=DT lL;obtain⟨hvi,ar8⟩:=IU i rfl;have hu:cQ (fun j=>!eg ts j mZ) (jc ts fin) (ts.length+1-i) i=aF (jc ts fin i) fun(t,j)=>aF (cQ (fun j=>!eg ts j mZ) (jc ts fin) (ts.length-i) j) fun(r,k)=>.ok (t::r,k):=by
     have e:ts.length+1-i=(ts.length-i)+1:=by omega
     rw[e,cQ,lL,if_neg (by decide)]
    have cB:ak w8 b (cO lv vv fin i (0,0)) 135:=Hu.rs;refine au ?_;refine ai _ (aB rfl (ak.cell cB (by rfl))) ?_;refine nM ((i+1:Nat):Int) ?_;refine au ?_;refine aj (aH [.int .i64 ((i+1:Nat):Int)] rfl oH cB (by simp[cO]) (by simp;rfl) ?_);intro w9 n_ bg lX;rw[DL]at lX;have Hv:Ps w w9 b b2 b3 lv vv fin ts vs (.ok (i+1)):=Hu.nT o6 EE Ht bg lX;refine oC (V1 Hv.cx Hv.rs) ?_;rintro r bM⟨BH,bV⟩;obtain⟨s',rfl,ar9,vH,aoE⟩:∃s':List UInt8,r=.string (str s')∧s'.length≤8∧(∀p,gu ts fin (i+1)=.ok p→p.1=s')∧Rs bM b lv vv fin (eQ (gu ts fin (i+1))):=by
     have DX:GJ bM b lv vv fin r (gu ts fin (i+1)):=BH;cases hc:gu ts fin (i+1)with
     |error e=>
      rw[hc]at DX;exact⟨[],DX.1,by simp,fun p hp=>(by cases hp),DX.2⟩
     |ok p=>
      rw[hc]at DX;exact⟨p.1,DX.1,ag6 hc,fun q hq=>by injection hq with hq;rw[←hq],DX.2⟩
    have km:Ps w bM b b2 b3 lv vv fin ts vs (eQ (gu ts fin (i+1))):=Hv.KR o6 EE Ht bV aoE;refine ai _ (bL _ rfl rfl (Xj (str s')) bM) ?_;refine aj (bO _ rfl YY ?_);intro dB b7 aog u4 b8 aoF;refine aj (aH [.string (str s'),.int .i64 0] rfl YZ aoF (by simp) (by intro u AY;simp at AY;rcases AY with rfl|rfl<;>rfl) ?_);intro fj u6 di aa7;rw[bs (by rfl)]at aa7;have Y1:ae [] bM fj:=b8.aO di (by omega);have yu:=km.aA Y1;have Zw:w6.heap.size≤bM.heap.size:=by have:=bg.size;have:=bV.size;omega
    have aoG:b≠b7:=by have:=km.rs.lt;omega
    have aoH:w.heap.size≤b7:=by have:=km.keep.size;omega
    have Ln:b2≠b7:=by have:=km.hp.lt;omega
    have aoI:b3≠b7:=by have:=km.hf.lt;omega
    have L0:∀k,vv.ownBlock=some k→k<b7:=fun k hk=>by have:=(km.own.lt k hk).2;omega
    refine aP ?_;refine bT ?_;refine fx (fun σ' w'=>∃(n:Int),(∀p,aF (eQ (gu ts fin (i+1))) (fT ts fin)=.ok p→p.1=n)∧Ps w w' b b2 b3 lv vv fin ts vs (eQ (aF (eQ (gu ts fin (i+1))) (fT ts fin)))∧ak w' b7 [.string (str s'),.int .i64 (iD n)] 137∧fj.heap.size≤w'.heap.size∧
     Sub [(2,.pointer (some ⟨b2,0,none⟩)),(3,.pointer (some ⟨b3,0,none⟩)),(4,lv),(6,.pointer (some ⟨b,0,none⟩)),(7,.pointer (some ⟨b7,0,none⟩))] σ') ?_ ?_
    rotate_left
    ·intro nS;refine bT ?_;refine cH ?_;refine aP ?_;refine oC (Ug yu.cx yu.rs) ?_;rintro r iW⟨Ag,bZ⟩;obtain⟨n,rfl,iy,Ev⟩:∃n:Int,r=.int .i64 n∧(∀p,aF (eQ (gu ts fin (i+1))) (fT ts fin)=.ok p→p.1=n)∧Rs iW b lv vv fin (eQ (aF (eQ (gu ts fin (i+1))) (fT ts fin))):=by
      cases hc:aF (eQ (gu ts fin (i+1))) (fT ts fin)with
      |error e=>
       rw[hc]at Ag;exact⟨0,Ag.1,fun p hp=>(by cases hp),Ag.2⟩
      |ok p=>
       rw[hc]at Ag;exact⟨p.1,Ag.1,fun q hq=>by injection hq with hq;rw[←hq],Ag.2⟩
     have GM:=yu.KR o6 EE Ht bZ Ev;have LN:=bZ.af aa7 (by simp;omega);refine aP ?_;refine bT ?_;refine cH ?_;refine aP ?_;by_cases hn:1≤n∧n≤48
     ·refine ye ?_;refine aP ?_;refine ye ?_;refine aP ?_;refine cH ?_;refine aP ?_;refine aj (aH [.int .i64 n] rfl oH LN (by simp) (by simp;rfl) ?_);intro nh aoJ gP Ra;have zR:=GM.other aoH aoG Ln aoI LN L0 gP;have e1:iD n=n:=by unfold iD;rw[if_pos hn]
      refine aP ?_;exact nS _ _ ⟨n,iy,zR,by rw[e1];exact Ra,by have:=bZ.size;have:=gP.size;omega,rfl,rfl,rfl,rfl,rfl,trivial⟩
     ·have e1:iD n=0:=by unfold iD;rw[if_neg hn]
      by_cases h1:1≤n
      ·refine ye ?_;refine aP ?_;refine aL ?_;refine aP ?_;exact nS _ _ ⟨n,iy,GM,by rw[e1];exact LN,by have:=bZ.size;omega,rfl,rfl,rfl,rfl,rfl,trivial⟩
      ·refine aL ?_;refine aP ?_;exact nS _ _ ⟨n,iy,GM,by rw[e1];exact LN,by have:=bZ.size;omega,rfl,rfl,rfl,rfl,rfl,trivial⟩
    rintro σ' nh⟨n,iy,zR,Ra,art,bH⟩;refine bj bH ?_;obtain⟨X',hX'⟩:∃X',X'=eQ (aF (eQ (gu ts fin (i+1))) (fT ts fin)):=⟨_,rfl⟩;rw[←hX']at zR;obtain⟨i14,Cl,aoK⟩:=zR.rs.af;obtain⟨vav,vcv,kx⟩:=zR.own.form;have bz:ae [] nh nh.drew:=(ae.refl _ _).drew;refine bC (fun w'=>ak w' b7 [.string (str s'),.int .i64 (iD n)] 137∧ak w' b (cO lv vv fin i14 Cl) 135) [10] bE ?_;have hS:ak nh.drew b7 [.string (str s'),.int .i64 (iD n)] 137∧ak nh.drew b (cO lv vv fin i14 Cl) 135:=⟨bz.af Ra (by simp),bz.af aoK (by simp)⟩;refine dp 0 ?_;refine dp 1 ?_;refine dp 2 ?_;refine dp 3 ?_;refine dp 4 ?_;refine aI 5 _ rfl (fun w9 aq=>bF [.string (str s'),.int .i64 (iD n)] rfl (aq.1.range (by rfl))) hS ?_;refine a8 6 rfl (eE _ _ rfl rfl (Ym _ _) ?_);intro tI g15 ar_ aoL uh Ei;have Cm:ak tI b7 [.string (str s'),.int .i64 (iD n)] 137∧ak tI b (cO lv vv fin i14 Cl) 135:=⟨uh.af hS.1 (by simp),uh.af hS.2 (by simp)⟩;refine⟨fun _=>Cm,?_⟩;have nP:=(zR.aA bz).aA uh;refine a8 7 rfl (ja w.heap.size 137 2 24 (vs.flatMap dR) [.string (str s'),.int .i64 (iD n)] rfl rfl rfl (by decide+kernel) nP.own (Ei.range (by rfl)) rfl (by intro u AY;simp at AY;rcases AY with rfl|rfl<;>rfl) (by decide) (by simp only[maxLen];omega) (by omega) nP.keep.size ?_);intro g16 GN w16 Y2 Ee;have Rb:=qL Cm.2 (fQ nP.own Cm.2 (by decide)) Ee;have aoM:=qL Cm.1 (fun k hk e=>by have:=L0 k hk;omega) Ee;refine⟨fun _=>⟨aoM,Rb⟩,?_⟩;refine tk 8 ?_;refine tk 9 ?_;refine a8 10 rfl (aH [.slice (some ⟨g16,0,none⟩) (vs.length+1) GN] rfl OS Rb (by simp[cO]) (by simp;rfl) ?_);intro C8 asa Cg LO;refine⟨fun h=>absurd (by simp) h,?_⟩;refine bm ?_;have jx:b_ (cO lv vv fin i14 Cl) 5 [.slice (some ⟨g16,0,none⟩) (vs.length+1) GN]=cO lv (.slice (some ⟨g16,0,none⟩) (vs.length+1) GN) fin i14 Cl:=rfl;rw[jx]at LO;have Zx:Ps w C8 b b2 b3 lv (.slice (some ⟨g16,0,none⟩) (vs.length+1) GN) fin ts (vs++[(str s',iD n)]) X':=by
     have e1:(vs++[((str s',iD n):aJ)]).length=vs.length+1:=by simp
     have e2:(vs++[((str s',iD n):aJ)]).flatMap dR=vs.flatMap dR++[.string (str s'),.int .i64 (iD n)]:=by
      rw[List.flatMap_append];rfl
     have Y3:Own C8 w.heap.size 137 2 (.slice (some ⟨g16,0,none⟩) (vs.length+1) GN) (vs++[((str s',iD n):aJ)]).length ((vs++[((str s',iD n):aJ)]).flatMap dR):=by
      rw[e1,e2];exact Y2.keep Cg (fun k hk=>by simp;exact fun e=>fQ Y2 Rb (by decide) k hk e.symm)
     have aln:∀c,c<tI.heap.size→c≠b→vv.ownBlock≠some c→C8.heap[c]?=tI.heap[c]?:=by
      intro c hc jK cL;have o7:C8.heap[c]?=w16.heap[c]?:=Cg.block c (by rcases Ee with⟨_,_,h2⟩|⟨_,h2,_⟩<;>(have:=h2.size;omega)) (by simp;exact jK);rw[o7];rcases Ee with⟨h1,_,h2⟩|⟨_,h2,_⟩
      ·exact h2.block c hc (by simp;intro e;rw[e]at cL;exact cL h1)
      ·exact h2.block c hc (by simp)
     have Rc:∀{c:Nat} {L:List Value} {t:TypeId},ak tI c L t→c≠b→t≠137→ak C8 c L t:=by
      intro c L t hc jK ht;have:=aln c hc.lt jK (fun e=>fQ nP.own hc ht c e rfl);exact this.trans hc
     obtain⟨B1,gx⟩:=nP.cx.tok;have aoN:ae [] w C8:=by
      rcases Ee with⟨h1,_,h2⟩|⟨_,h2,_⟩
      ·exact((nP.keep.aO h2 (nP.own.lt g16 h1).1)).aO Cg o6
      ·exact(nP.keep.tr h2).aO Cg o6
     refine⟨?_,Y3,⟨⟨B1,?_⟩,⟨_,Y3⟩,nP.cx.len,by rw[e1];omega,nP.cx.bI⟩,Rc nP.hp (fun e=>EE e.symm) (by decide),Rc nP.hf (fun e=>Ht e.symm) (by decide),aoN,?_⟩
     ·have tB:=nP.rs;cases X' with
      |ok i'=>
       have jt:ak tI b (cO lv vv fin i' (0,0)) 135:=tB;have:=Cm.2;unfold ak at this jt;rw[jt]at this;injection this with this;injection this with this;have h2:=congrArg (fun a:Array Value=>(a[2]?,a[3]?,a[4]?)) this;simp[cO]at h2;obtain⟨h2a,Mu,SQ⟩:=h2;have ei:i'=i14:=by omega
       have ef:Cl=(0,0):=Prod.ext Mu.symm SQ.symm;rw[ei];rw[ef]at LO;exact LO
      |error e=>
       obtain⟨he,i',jt⟩:=tB;have:=Cm.2;unfold ak at this jt;rw[jt]at this;injection this with this;injection this with this;have h2:=congrArg (fun a:Array Value=>(a[2]?,a[3]?,a[4]?)) this;simp[cO]at h2;obtain⟨h2a,Mu,SQ⟩:=h2;have ef:Cl=e:=Prod.ext Mu.symm SQ.symm;exact⟨he,i14,by rw[←ef];exact LO⟩
     ·refine⟨gx.1,?_⟩;rcases gx.2 with h0|⟨g1,c1,Q6,h1,h2,h3,h4⟩
      ·exact .inl h0
      ·refine .inr ⟨g1,c1,Q6,h1,h2,Rc h3 (fun e=>?_) (by decide),h4⟩;subst e;exact h3.ne Cm.2 (by decide) rfl
     ·intro y hy;rcases List.mem_append.1 hy with hy|hy
      ·exact nP.nm y hy
      ·simp only[List.mem_singleton]at hy;subst hy;show(str s').size≤100000;rw[oF];omega
    have Zy:w6.heap.size≤C8.heap.size:=by
     have h1:=uh.size;have h2:tI.heap.size≤w16.heap.size:=by rcases Ee with⟨_,_,h2⟩|⟨_,h2,_⟩<;>exact h2.size
     have h3:=Cg.size;have h4:nh.drew.heap.size=nh.heap.size:=rfl;have h5:=Y1.size;omega
    have qo:jc ts fin i=aF (aF (eQ (gu ts fin (i+1))) (fT ts fin)) fun p=>.ok (((str s',iD n):aJ),p.2):=by
     unfold jc;cases hc:gu ts fin (i+1)with
     |error e=>rfl
     | ok p=>
      obtain⟨s2,j2⟩:=p;have:=vH _ hc
      dsimp only at this
      subst this;rw[hc]at iy;show aF (fT ts fin j2) _=aF (fT ts fin j2) _;cases o0:fT ts fin j2 with
      |error e=>rfl
      |ok p2=>
       have:=iy p2 o0;rw[←this];rfl
    refine au ?_;have hlX:eQ (jc ts fin i)=X':=by
     rw[qo,hX'];unfold eQ;cases aF (aF (gu ts fin (i+1)) fun p=>Except.ok p.2) (fT ts fin)<;>rfl
    cases hc:jc ts fin i with
    | error e=>
     have ER:X'=.error e:=by rw[←hlX,hc];rfl
     refine bj ?_ (ih _ _ _ ?_ ⟨X',vs++[(str s',iD n)],_,rfl,rfl,?_,fun i' kW=>?_,by simp;omega,Zx,Zy⟩)
     ·exact⟨rfl,rfl,rfl,rfl,trivial⟩
     ·rw[ER];show 0<ts.length+1-i;omega
     ·rw[nt,ER];show aF (cQ _ _ (ts.length+1-i) i) _=_;rw[hu,hc];rfl
     ·rw[ER]at kW;cases kW
    | ok p=>
     obtain⟨y,j'⟩:=p;have vm:=uR hc
     dsimp only at vm
     have SR:X'=.ok j':=by rw[←hlX,hc];rfl
     have hy:y=(str s',iD n):=by
      rw[qo]at hc;obtain⟨p,_,gT⟩:=cM hc;injection gT with gT;injection gT with gT _;exact gT.symm
     refine bj ?_ (ih _ _ _ ?_ ⟨X',vs++[(str s',iD n)],_,rfl,rfl,?_,fun i' kW=>?_,by simp;omega,Zx,Zy⟩)
     ·exact⟨rfl,rfl,rfl,rfl,trivial⟩
     ·rw[SR];show ts.length+1-j'<ts.length+1-i;omega
     ·rw[nt,SR];show aF (cQ _ _ (ts.length+1-i) i) _=aF (cQ _ _ (ts.length+1-j') j') _;rw[hu,hc];show aF (aF (cQ _ _ (ts.length-i) j') _) _=_;rw[Dg (ts:=ts) (fun i r hr=>uR hr) (ts.length-i) (ts.length+1-j') j' vm.2 (by omega) (by omega)];cases cQ (fun j=>!eg ts j mZ) (jc ts fin) (ts.length+1-j') j' with
      |error e=>rfl
      |ok q=>
       obtain⟨r',k'⟩:=q;show BU ts fin (vs++y::r') k'=BU ts fin (vs++[(str s',iD n)]++r') k';rw[hy,List.append_assoc];rfl
     ·rw[SR]at kW;injection kW with kW;subst kW;exact⟨by simp;omega,vm.2⟩
  rintro σ' w7⟨X,vs,vv,nt,IU,hv7,vp,aa6,bH⟩;refine bj bH ?_;obtain⟨vav,vcv,rfl⟩:=vp.own.form;subst qw;obtain⟨vv,kx⟩:∃vv,vv=Value.slice vav vs.length vcv:=⟨_,rfl⟩;have aa8:vv.oneCell'=true:=by rw[kx];rfl
  rw[←kx]at vp;refine au ?_;refine aj (bO _ rfl sH ?_);intro w8 b9 asb jP aS hp8;have Hu:=vp.aA aS;obtain⟨i8,fl8,cB⟩:=Hu.rs.af;refine au ?_;refine ai _ (aB rfl (ak.cell cB (by rfl))) ?_;refine au ?_;refine aj (xS [vv] rfl rfl rfl (by rw[kx];rfl) OS hp8 (by simp[pz]) (by intro u hu;simp at hu;subst hu;exact aa8) ?_);intro w9 n_ bg Fq;have aoO:b_ pz 0 [vv]=[vv,.slice none 0 0]:=rfl;rw[aoO]at Fq;have oT:ae [] w7 w9:=aS.aO bg (by omega);have Hv:=vp.aA oT;obtain⟨B9,RB⟩:∃B9,B9=w9.heap.size:=⟨_,rfl⟩;have hw9:b9<w9.heap.size:=Fq.lt;have asc:b9<B9:=by omega
  have asd:b<b9:=by have:=vp.rs.lt;omega
  have ase:b2<b9:=by have:=vp.hp.lt;omega
  have asf:b3<b9:=by have:=vp.hf.lt;omega
  have gB:bq=aF X (fun i=>aF (cQ (fun j=>decide (ts.length≤j)) (ie ts fin vs 13) (ts.length+1-i) i) fun p=>uk vs ([]++p.1)):=nt;refine aP ?_;refine bT ?_;refine fx (fun σ' w'=>∃(Y:Except bp (List ST×Nat)) (sl:Value),bq=aF Y (fun p=>uk vs p.1)∧(∃a n c,sl=.slice a n c)∧(∀p,Y=.ok p→lG w' B9 sl p.1∧cu p.1≤3*ts.length)∧Ps w w' b b2 b3 (.slice av ts.length cv) vv fin ts vs (eQ Y)∧ak w' b9 [vv,sl] 75∧
   Sub [(2,.pointer (some ⟨b2,0,none⟩)),(3,.pointer (some ⟨b3,0,none⟩)),(6,.pointer (some ⟨b,0,none⟩)),(9,.pointer (some ⟨b9,0,none⟩))] σ') ?_ ?_
  rotate_left
  ·intro nS;refine pc ?_;refine cP (fun m σ w'=>∃(X:Except bp Nat) (l:List ST) (sl:Value),m=(match X with|.ok i=>ts.length+1-i|.error _=>0)∧(∃a n c,sl=.slice a n c)∧
    σ=[(2,.pointer (some ⟨b2,0,none⟩)),(3,.pointer (some ⟨b3,0,none⟩)),(4,.slice av ts.length cv),(6,.pointer (some ⟨b,0,none⟩)),(9,.pointer (some ⟨b9,0,none⟩))]∧
    bq=aF X (fun i=>aF (cQ (fun j=>decide (ts.length≤j)) (ie ts fin vs 13) (ts.length+1-i) i) fun p=>uk vs (l++p.1))∧(∀i,X=.ok i→l.length≤i∧i≤ts.length∧lG w' B9 sl l∧cu l≤3*i)∧Ps w w' b b2 b3 (.slice av ts.length cv) vv fin ts vs X∧ak w' b9 [vv,sl] 75∧B9≤w'.heap.size)
    _ _ ?_ ⟨X,[],.slice none 0 0,rfl,⟨_,_,_,rfl⟩,rfl,gB,fun i hi=>⟨Nat.zero_le _,(IU i hi).2,lG.nil _ _,Nat.zero_le _⟩,Hv,Fq,by omega⟩ ?_
   ·exact⟨rfl,rfl,rfl,rfl,rfl,trivial⟩
   rintro m σ bM ih⟨X,l,sl,rfl,mh,rfl,rZ,Ed,km,qZ,Zw⟩;refine oC (ml km.rs) ?_;rintro r dB⟨rfl,cC⟩;rw[cC];cases X with
   |error e=>
    have e1:eV (.error e)=false:=rfl;rw[e1];refine aP ?_;exact nS _ _ ⟨.error e,sl,rZ,mh,fun p hp=>(by cases hp),km,qZ,rfl,rfl,rfl,rfl,trivial⟩
   | ok i=>
    obtain⟨hli,fF,bN,asg⟩:=Ed i rfl;have ld:ak bM b (cO (.slice av ts.length cv) vv fin i (0,0)) 135:=km.rs;have e1:eV (.ok i)=true:=rfl;rw[e1];refine au ?_;refine ai _ (aB rfl (ak.cell ld (by rfl))) ?_;refine au ?_;have hu:cQ (fun j=>decide (ts.length≤j)) (ie ts fin vs 13) (ts.length+1-i) i=if decide (ts.length≤i)then .ok ([],i)else aF (ie ts fin vs 13 i) fun(t,j)=>aF (cQ (fun j=>decide (ts.length≤j)) (ie ts fin vs 13) (ts.length-i) j) fun(r,k)=>.ok (t::r,k):=by
     have e:ts.length+1-i=(ts.length-i)+1:=by omega
     rw[e];rfl
    by_cases az:i<ts.length
    ·refine ye ?_;refine au ?_;have hq:decide (ts.length≤i)=false:=by simp;omega
     have bz:ae [] bM bM.drew:=(ae.refl _ _).drew;refine bC (fun w'=>True∧ak w' b9 [vv,sl] 75) [7] bE ?_;have hS:True∧ak bM.drew b9 [vv,sl] 75:=⟨trivial,bz.af qZ (by simp)⟩;have Re:=km.aA bz;have Zz:=bN.keep bz (by simp);have aaq:B9≤bM.drew.heap.size:=Zw;refine tk 0 ?_;refine aI 1 sl rfl (fun w9 aq=>aB rfl (aq.2.cell (by rfl))) hS ?_;refine tk 2 ?_;refine dC 3 (ahd 13 0 i (by omega) Re.cx Re.rs) ?_;rintro r fj⟨hex,di⟩;have Af:=di.af hS.2 (by simp;omega);refine⟨fun _=>⟨trivial,Af⟩,?_⟩;have uU:=Zz.keep di (by simp;omega);obtain⟨cs,rfl,kR,my,aoP⟩:∃cs:List Value,r=.agg cs.toArray∧cs.length=12∧(∀u∈cs,u.oneCell'=true)∧Rs fj b (.slice av ts.length cv) vv fin (eQ (ie ts fin vs 13 i)):=by
      cases hc:ie ts fin vs 13 i with
      |error e=>rw[hc]at hex;obtain⟨⟨cs,h1,h2,h3⟩,h4⟩:=hex;exact⟨cs,h1,h2,h3,h4⟩
      |ok p=>obtain⟨t,j'⟩:=p;rw[hc]at hex;obtain⟨⟨cs,F,h1,h2,_⟩,h4⟩:=hex;exact⟨cs,h1,h2.length,h2.one,h4⟩
     have yu:=Re.KR o6 EE Ht di aoP;obtain⟨c0,c1,c2,c3,c4,c5,c6,c7,c8,c9,xM,xN,rfl⟩:=Ph kR;refine a8 4 rfl (eE _ _ rfl rfl (Ny c0 c1 c2 c3 c4 c5 c6 c7 c8 c9 xM xN) ?_);intro iW g13 ash Ca bZ tg;have Rh:=bZ.af Af (by simp);refine⟨fun _=>⟨trivial,Rh⟩,?_⟩;have GM:=yu.aA bZ;have uV:=uU.keep bZ (by simp);obtain⟨xs,Ks⟩:=uV.own;have EB:B9≤iW.heap.size:=by have:=di.size;have:=bZ.size;omega
     refine a8 5 rfl (ja B9 143 12 160 xs [c0,c1,c2,c3,c4,c5,c6,c7,c8,c9,xM,xN] rfl rfl rfl (by decide+kernel) Ks (tg.range (by rfl)) rfl my (by decide) (by simp only[maxLen];omega) (by omega) EB ?_);intro g14 Ef nh alo KS;have Hw:=qL Rh (fQ Ks Rh (by decide)) KS;refine⟨fun _=>⟨trivial,Hw⟩,?_⟩;have zR:=GM.app (by omega) (by omega) (by omega) (by omega) Ks KS;refine tk 6 ?_;refine a8 7 rfl (aH [.slice (some ⟨g14,0,none⟩) (l.length+1) Ef] rfl ahe Hw (by simp) (by intro u AY;simp at AY;subst AY;rfl) ?_);intro tI aoL uh Ri;refine⟨fun h=>absurd (by simp) h,?_⟩;refine bm ?_;have jx:b_ [vv,sl] 1 [.slice (some ⟨g14,0,none⟩) (l.length+1) Ef]=[vv,.slice (some ⟨g14,0,none⟩) (l.length+1) Ef]:=rfl;rw[jx]at Ri;have nP:=zR.prog (by omega) (by omega) (by omega) (by omega) Hw uh;have aa9:B9≤tI.heap.size:=by
      have:=uh.size;have:iW.heap.size≤nh.heap.size:=by rcases KS with⟨_,_,h2⟩|⟨_,h2,_⟩<;>exact h2.size
      omega
     refine au ?_;cases hc:ie ts fin vs 13 i with
     | error e=>
      rw[hc]at nP;refine bj ?_ (ih _ _ _ ?_ ⟨.error e,l,.slice (some ⟨g14,0,none⟩) (l.length+1) Ef,rfl,⟨_,_,_,rfl⟩,rfl,?_,fun i hi=>(by cases hi),nP,Ri,aa9⟩)
      ·exact⟨rfl,rfl,rfl,rfl,rfl,trivial⟩
      ·show 0<ts.length+1-i;omega
      ·rw[rZ];show aF (cQ _ _ (ts.length+1-i) i) _=_;rw[hu,hq,hc];rfl
     | ok p=>
      obtain⟨t,j'⟩:=p;have vm:=qI vs 13 i _ hc;have bw:=Jj vs 13 i _ hc
      dsimp only at vm bw
      rw[hc]at hex nP;obtain⟨⟨ur,F',mi,iX,gU⟩,qD⟩:=hex;have zn:ur=[c0,c1,c2,c3,c4,c5,c6,c7,c8,c9,xM,xN]:=by
       injection mi with mi;have:=congrArg Array.toList mi;simpa using this.symm
      subst zn;have O8:lG nh B9 (.slice (some ⟨g14,0,none⟩) (l.length+1) Ef) (l++[t]):=by
       refine uV.app (iX.keep bZ (fun c cG=>⟨(gU c cG).2,by simp⟩)) (fun c cG=>?_) (fun ys vt=>?_) KS
       ·have h3:=gU c cG;refine⟨by omega,by have:=bZ.size;omega,fun e'=>?_⟩;obtain⟨zs,hz⟩:=Zz.own;have:=(hz.lt c e').2;omega
       ·have:ys=xs:=vt.eq Ks;subst this;exact alo
      have alp:=O8.keep uh (by simp;omega);refine bj ?_ (ih _ _ _ ?_ ⟨.ok j',l++[t],.slice (some ⟨g14,0,none⟩) (l.length+1) Ef,rfl,⟨_,_,_,rfl⟩,rfl,?_,fun i' kW=>?_,nP,Ri,aa9⟩)
      ·exact⟨rfl,rfl,rfl,rfl,rfl,trivial⟩
      ·show ts.length+1-j'<ts.length+1-i;omega
      ·rw[rZ];show aF (cQ _ _ (ts.length+1-i) i) _=aF (cQ _ _ (ts.length+1-j') j') _;rw[hu,hq,hc];show aF (aF (cQ _ _ (ts.length-i) j') _) _=_;rw[Dg (ts:=ts) (fun i r hr=>qI vs 13 i r hr) (ts.length-i) (ts.length+1-j') j' vm.2 (by omega) (by omega)];cases cQ (fun j=>decide (ts.length≤j)) (ie ts fin vs 13) (ts.length+1-j') j' with
       |error e=>rfl
       |ok q=>
        obtain⟨r',k'⟩:=q;show uk vs (l++t::r')=uk vs (l++[t]++r');rw[List.append_assoc];rfl
      ·injection kW with kW;subst kW;refine⟨by simp;omega,vm.2,alp,?_⟩;rw[Jc];simp only[cu];omega
    ·refine aL ?_;refine aP ?_;have hq:decide (ts.length≤i)=true:=by simp;omega
     refine nS _ _ ⟨.ok (l,i),sl,?_,mh,fun p hp=>?_,km,qZ,rfl,rfl,rfl,rfl,trivial⟩
     ·rw[rZ];show aF (cQ _ _ (ts.length+1-i) i) _=_;rw[hu,hq];show uk vs (l++[])=uk vs l;rw[List.append_nil]
     ·injection hp with hp;subst hp;exact⟨bN,by show cu l≤_;omega⟩
  rintro σ' bM⟨Y,sl,rZ,⟨sa,sn,sc,rfl⟩,yk,km,qZ,bH⟩;refine bj bH ?_;refine oC (ml km.rs) ?_;rintro r dB⟨rfl,cC⟩;rw[cC];cases Y with
  |error e=>
   have e1:eV (eQ (.error e:Except bp (List ST×Nat)))=false:=rfl;rw[e1];refine au ?_;obtain⟨he,i10,ld⟩:e.1≠0∧∃i,ak bM b (cO (.slice av ts.length cv) vv fin i e) 135:=km.rs;have bz:ae [] bM bM.drew:=(ae.refl _ _).drew;refine bC (fun w'=>True∧ak w' b (cO (.slice av ts.length cv) vv fin i10 e) 135) [6] bE ?_;have hS:True∧ak bM.drew b (cO (.slice av ts.length cv) vv fin i10 e) 135:=⟨trivial,bz.af ld (by simp)⟩;refine bD 0 _ rfl (fun w=>bL _ rfl rfl DC w) ?_;refine tk 1 ?_;refine tk 2 ?_;refine tk 3 ?_;refine aI 4 _ rfl (fun w9 aq=>bF [.int .i64 e.1,.int .i64 e.2] rfl (aq.2.range (by rfl))) hS ?_;refine a8 5 rfl (aH pz rfl nI (bz.af km.hp (by simp)) (by simp[pz]) (oJ _ _ _ _ _ _) ?_);intro dB u4 b8 qs;rw[bs (by rfl)]at qs;refine⟨fun _=>⟨trivial,b8.af hS.2 (by simp;exact EE)⟩,?_⟩;have rX:=b8.af (bz.af km.hf (by simp)) (by simp;omega);refine a8 6 rfl (aH [.int .i64 e.1,.int .i64 e.2] rfl gm rX (by simp) (gp _ _) ?_);intro fj u6 di xf;rw[bs (by rfl)]at xf;have Af:=di.af qs (by simp;omega);refine⟨fun h=>absurd (by simp) h,?_⟩;refine bm ?_;refine zy func48 rfl rfl rfl (cV hT Af rfl) (cV hT xf rfl) ⟨?_,((km.keep.tr bz).aO b8 EC).aO di Q_⟩;rw[rZ];exact⟨_,fun _=>False,rfl,Ba,Bh,fun _ h=>h.elim⟩
  | ok p=>
   obtain⟨l',k'⟩:=p;obtain⟨bN,bw⟩:=yk _ rfl
   dsimp only at bN bw
   have e1:eV (eQ (.ok (l',k'):Except bp (List ST×Nat)))=true:=rfl;rw[e1];refine au ?_;refine ai _ (bF [vv,.slice sa sn sc] rfl (qZ.range (by rfl))) ?_;have yv:sn≤sc:=by
    obtain⟨_,bW⟩:=bN.own;exact OQ bW
   obtain⟨Fs,aoQ,aoR⟩:=bN.stmts;have ZA:iN (fun c=>vv.ownBlock=some c∨Fs c) bM (.agg #[vv,.slice sa sn sc]) vs l':=⟨_,_,rfl,(Xk km.own).mono (fun _ h=>.inl h),aoQ.mono (fun _ h=>.inr h)⟩;have mH:∀c,(vv.ownBlock=some c∨Fs c)→w.heap.size≤c∧c<bM.heap.size∧c≠b2∧c≠b3:=by
    rintro c (h|h)
    ·have h1:=km.own.lt c h;exact⟨h1.1,h1.2,fun e=>fQ km.own km.hp (by decide) c h e.symm,fun e=>fQ km.own km.hf (by decide) c h e.symm⟩
    ·have h1:=aoR c h;exact⟨by omega,h1.2,by omega,by omega⟩
   refine oC (adI ZA (fun c h=>(mH c h).2.1) km.nm (by omega)) ?_;rintro r dB⟨rfl,b8⟩;obtain⟨c,hc⟩:∃c,c=dq vs l':=⟨_,rfl⟩;rw[←hc];have KT:=km.aA b8;have qs:=b8.af qZ (by simp);refine au ?_;by_cases iJ:c=0
   ·refine aL ?_;refine au ?_;refine ai _ (bF [vv,.slice sa sn sc] rfl (qs.range (by rfl))) ?_;refine ai _ (bL _ rfl rfl ai9 dB) ?_;refine aj (aH [vv,.slice sa sn sc] rfl nI KT.hp (by simp[pz]) (by intro u hu;simp at hu;rcases hu with rfl|rfl;exact aa8;rfl) ?_);intro fj u6 di aa_;rw[bs (by rfl)]at aa_;have xf:=di.af KT.hf (by simp;omega);refine aj (aH [.int .i64 0,.int .i64 0] rfl gm xf (by simp) (gp _ _) ?_);intro iW Ca bZ Eu;rw[bs (by rfl)]at Eu;have LP:=bZ.af aa_ (by simp;omega);refine au ?_;refine zy func48 rfl rfl rfl (cV hT LP rfl) (cV hT Eu rfl) ⟨?_,(KT.keep.aO di EC).aO bZ Q_⟩;have e:bq=.ok (vs,l'):=by
     rw[rZ];show uk vs l'=_;unfold uk;rw[←hc,iJ];rfl
    rw[e];have aru:=b8.size;have arv:=di.size;have arw:=bZ.size;refine⟨_,_,rfl,((ZA.keep b8 (fun c h=>⟨(mH c h).2.1,by simp⟩)).keep di (fun c h=>⟨by have:=mH c h;omega,by simp;exact(mH c h).2.2.1⟩)).keep bZ (fun c h=>⟨by have:=mH c h;omega,by simp;exact(mH c h).2.2.2⟩),⟨_,sa,sn,sc,rfl,yv⟩,fun c h=>⟨(mH c h).1,by have:=mH c h;omega⟩⟩
   ·refine ye ?_;refine au ?_;refine ai _ (bL _ rfl rfl DC dB) ?_;refine oC (xV c (-1) dB) ?_;rintro r fj⟨rfl,di⟩;have yu:=KT.aA di;refine aj (aH pz rfl nI yu.hp (by simp[pz]) (oJ _ _ _ _ _ _) ?_);intro iW Ca bZ LP;rw[bs (by rfl)]at LP;have Eu:=bZ.af yu.hf (by simp;omega);refine aj (aH [.int .i64 c,.int .i64 (-1)] rfl gm Eu (by simp) (gp _ _) ?_);intro nh aoJ gP aba;rw[bs (by rfl)]at aba;have aoS:=gP.af LP (by simp;omega);refine au ?_;refine zy func48 rfl rfl rfl (cV hT aoS rfl) (cV hT aba rfl) ⟨?_,(yu.keep.aO bZ EC).aO gP Q_⟩;have e:bq=.error (c,-1):=by
     rw[rZ];show uk vs l'=_;unfold uk;rw[←hc,if_pos iJ]
    rw[e];exact⟨_,fun _=>False,rfl,Ba,Bh,fun _ h=>h.elim⟩
 ·refine ye ?_;refine au ?_;have bz:ae [] w5 w5.drew:=(ae.refl _ _).drew;refine bC (fun w'=>True∧ak w' b5 [.int .i64 fa,.int .i64 fb] 34) [3] bE ?_;have hS:True∧ak w5.drew b5 [.int .i64 fa,.int .i64 fb] 34:=⟨trivial,bz.af SP (by simp)⟩;refine bD 0 _ rfl (fun w=>bL _ rfl rfl DC w) ?_;refine aI 1 _ rfl (fun w9 aq=>bF [.int .i64 fa,.int .i64 fb] rfl (aq.2.range (by rfl))) hS ?_;refine a8 2 rfl (aH pz rfl nI (bz.af lp (by simp)) (by simp[pz]) (oJ _ _ _ _ _ _) ?_);intro w6 iI aD pP;rw[bs (by rfl)]at pP;refine⟨fun _=>⟨trivial,aD.af hS.2 (by simp;omega)⟩,?_⟩;have sr:=aD.af (bz.af lr (by simp)) (by simp;omega);refine a8 3 rfl (aH [.int .i64 fa,.int .i64 fb] rfl gm sr (by simp) (gp _ _) ?_);intro w7 jr aN vJ;rw[bs (by rfl)]at vJ;have ux:=aN.af pP (by simp;omega);refine⟨fun h=>absurd (by simp) h,?_⟩;refine bm ?_;have hX:j1 l=.error (fa,fb):=by
   unfold j1;rw[←Q9,if_pos AD]
  refine zy func48 rfl rfl rfl (cV hT ux rfl) (cV hT vJ rfl) ⟨?_,((cK.tr bz).aO aD (by omega)).aO aN (by omega)⟩;rw[hX];exact⟨_,fun _=>False,rfl,Ba,Bh,fun _ h=>h.elim⟩
theorem agD(a:List (List UInt8))(x:List UInt8):Lib.join (a++[x]) [10]=if a=[]then x else Lib.join a [10]++[10]++x:=by
 cases a with
 |nil=>simp[Lib.join_one]
 |cons y r=>
  rw[if_neg (by simp),List.cons_append,Lib.join_cons,Lib.join_cons];simp[Lib.joinTail]
section
variable{w00 w:World}{r:Nat}{fr:List Nat}{L:List UInt8}{s:Ds}
theorem TG(hw:Lw w00)(bX:ae [] w00 w)(h:iw w00.heap.size w r fr L s)(pS:fD s.bI≤100000)(hL:L.length≤700000000000):
  aC prog 29 [.pointer (some ⟨r,0,none⟩)] w fun q w'=>
   match j1 (Lib.join s.bI [10])with
   |.ok y=>∃av bv n c m e F,q=.tuple #[.agg #[.slice av n c,.slice bv m e],.bool true]∧iN F w' (.agg #[.slice av n c,.slice bv m e]) y.1 y.2∧In F w'∧ae [] w w'
   |.error e=>∃av bv n c m e',q=.tuple #[.agg #[.slice av n c,.slice bv m e'],.bool false]∧iw w00.heap.size w' r fr (L++eN e_ [e.1,e.2]) s∧ae [r] w w':=by
 obtain⟨tv,iv,bv,fb,fi,hR,y9⟩:=id h;have aZ:=Kl hR.tx;obtain⟨ta,tc,rfl,_⟩:=aZ.form;have jv:=Oe s.bI;have ox:=F6 s.bI;have oY:=h.lt r h.mem;refine aG 53 func29 ?_;refine au ?_;refine aj (bO _ rfl sH ?_);intro w1 x2 gi bt ah aM;refine au ?_;refine cP (fun t σ w'=>∃i:Nat,i≤s.bI.length∧t=s.bI.length-i∧σ=[(0,.pointer (some ⟨r,0,none⟩)),(2,.pointer (some ⟨x2,0,none⟩)),(4,.string (str (Lib.join (s.bI.take i) [10]))),(5,.int .i64 (i:Nat))]∧ae [] w1 w')
  s.bI.length _ ?_ ⟨0,Nat.zero_le _,rfl,rfl,ae.refl _ _⟩ ?_
 ·exact⟨rfl,rfl,rfl,rfl,trivial⟩
 rintro t σ w2 ih⟨i,hi,rfl,rfl,an⟩;have br:=ah.tr an;have aX:=br.af hR.bk (by simp);refine lB aX ?_;refine au ?_;by_cases az:i<s.bI.length
 ·obtain⟨l,hx⟩:∃l,s.bI[i]?=some l:=⟨_,List.getElem?_eq_getElem az⟩;obtain⟨b,q,iF,e1,_,fB⟩:=(aZ.aA br).at hx;injection e1 with e1 _ e3;subst e1 e3;have hjt:=Oe (s.bI.take i);have htt:fD s.bI=fD (s.bI.take i)+fD (s.bI.drop i):=by rw[←JM,List.take_append_drop]
  have CM:=OK (List.mem_of_getElem? hx);have Mn:s.bI.take (i+1)=s.bI.take i++[l]:=by rw[List.take_add_one,hx,Option.toList_some]
  have ej:=agD (s.bI.take i) l;rw[←Mn]at ej;have bS:s.bI.take i=[]↔i=0:=by
   constructor
   ·intro e;have:(s.bI.take i).length=0:=by rw[e];rfl
    rw[List.length_take]at this;omega
   ·intro e;rw[e];rfl
  have back:=ih (s.bI.length-(i+1)) [(0,.pointer (some ⟨r,0,none⟩)),(2,.pointer (some ⟨x2,0,none⟩)),(4,.string (str (Lib.join (s.bI.take (i+1)) [10]))),(5,.int .i64 ((i+1:Nat):Int))] w2 (by omega) ⟨i+1,az,rfl,rfl,an⟩;refine ye ?_;refine au ?_;by_cases h0:i=0
  ·rw[if_pos (bS.2 h0)]at ej;refine aL ?_;refine lB aX ?_;refine au ?_;refine ai _ (bJ i rfl az w2) ?_;refine ai _ (aB rfl (by simpa using fB)) ?_;refine ai _ (val_add _ l rfl rfl rfl (by omega) w2) ?_;refine nM ((i+1:Nat):Int) ?_;refine au ?_;rw[show Lib.join (s.bI.take i) [10]++l=Lib.join (s.bI.take (i+1)) [10] by rw[ej,bS.2 h0];rfl];refine bj ?_ back;exact⟨rfl,rfl,rfl,rfl,trivial⟩
  ·rw[if_neg fun e=>h0 (bS.1 e)]at ej;refine ye ?_;refine au ?_;refine ai _ (val_add _ [10] rfl rfl rfl (by simp;omega) w2) ?_;refine lB aX ?_;refine au ?_;refine ai _ (bJ i rfl az w2) ?_;refine ai _ (aB rfl (by simpa using fB)) ?_;refine ai _ (val_add _ l rfl rfl rfl (by simp;omega) w2) ?_;refine nM ((i+1:Nat):Int) ?_;refine au ?_;rw[←ej];refine bj ?_ back;exact⟨rfl,rfl,rfl,rfl,trivial⟩
 refine aL ?_;refine au ?_;rw[List.take_of_length_le (by omega)];refine oC (afa (Lib.join s.bI [10]) (by omega) (hw.keep (bX.tr br))) ?_;rintro q w3⟨⟨x,F,rfl,hP,yv,mH⟩,aw⟩;have L8:In F w3:=fun k hk=>(mH k hk).2;have qz:=hP;obtain⟨vv,jf,rfl,hv,hb⟩:=hP;obtain⟨av,aY,rfl⟩:=hv.form;obtain⟨ab,bh,rfl⟩:=hb.form;refine au ?_;refine aj (bO _ rfl sH ?_);intro w4 x6 im cz ax oh;refine aj (bO _ rfl o9 ?_);intro w5 x7 sd iV aE lr;have lp:=aE.af oh (by simp);refine aj (aH _ rfl nI lp (by simp[pz]) (oJ _ _ _ _ _ _) ?_);intro w6 iI aD pP;rw[bs (by rfl)]at pP;have sr:=aD.af lr (by simp;omega);refine aj (aH _ rfl gm sr (by simp) (gp _ _) ?_);intro w7 jr aN vJ;rw[bs (by rfl)]at vJ;have ux:=aN.af pP (by simp;omega);have z4:=ax.size;have zZ:ae [] w3 w7:=((ax.tr aE).aO aD (by omega)).aO aN (by omega);have lV:=aw.tr zZ;have lF:ae [] w w7:=br.tr lV;have Ln:=(an.tr lV).af aM (by simp);have R9:=br.size;have z03:=(br.tr aw).size;have arL:=aM.lt;have z13:=(an.tr aw).size;refine lB vJ ?_;cases hX:j1 (Lib.join s.bI [10])with
 | error e=>
  obtain⟨e1,e2,e3⟩:=Of _ e hX;rw[hX]at vJ ux;replace ux:ak w7 x6 [.slice av 0 aY,.slice ab 0 bh] 75:=ux;have gA:(yo (.error e:Except bp (List aJ×List ST))).1≠0:=e1;refine ye ?_;refine au ?_;refine bC (fun w'=>True∧ak w' x7 [.int .i64 e.1,.int .i64 e.2] 34) [] bE ?_;have bz:ae [] w7 w7.drew:=(ae.refl _ _).drew;have hS:True∧ak w7.drew x7 [.int .i64 e.1,.int .i64 e.2] 34:=⟨trivial,bz.af vJ (by simp)⟩;have kP:=lF.tr bz;generalize w7.drew=w8 at*;refine tk 0 ?_;refine tk 1 ?_;refine aI 2 _ rfl (fun w9 aq=>aB rfl (ak.cell aq.2 (by rfl))) hS ?_;refine tk 6 ?_;refine aI 7 _ rfl (fun w9 aq=>aB rfl (ak.cell aq.2 (by rfl))) hS ?_;refine dC 3 (wB e2 (hw.lt.keep (bX.tr kP))) ?_;rintro q w9⟨rfl,bg⟩;refine⟨fun _=>⟨trivial,bg.af hS.2 (by simp)⟩,?_⟩;have i1:=Lib.itoa_length_le e.1 e2.1 e2.2;have i2:=Lib.itoa_length_le e.2 e3.1 e3.2;refine bD 4 _ rfl (fun w=>val_add (e_++[32]) (Lib.itoa e.1) rfl rfl rfl (by simp[e_];omega) w) ?_;refine bD 5 _ rfl (fun w=>val_add (e_++[32]++Lib.itoa e.1) [32] rfl rfl rfl (by simp[e_];omega) w) ?_;refine dC 8 (wB e3 (hw.lt.keep ((bX.tr kP).tr bg))) ?_;rintro q bM⟨rfl,bV⟩;have qT:=(kP.tr bg).tr bV;refine⟨fun _=>⟨trivial,(bg.tr bV).af hS.2 (by simp)⟩,?_⟩;refine bD 9 _ rfl (fun w=>val_add (e_++[32]++Lib.itoa e.1++[32]) (Lib.itoa e.2) rfl rfl rfl (by simp[e_];omega) w) ?_;refine dC 10 (DO (e_++[32]++Lib.itoa e.1++[32]++Lib.itoa e.2) (h.aA qT) (by simp[e_];omega)) ?_;rintro q dB⟨rfl,mg,b8⟩;have anr:x7∉[r]:=fun hm=>by have:=List.mem_singleton.1 hm;omega
  have ans:x6∉[r]:=fun hm=>by have:=List.mem_singleton.1 hm;omega
  have ant:x2∉[r]:=fun hm=>by have:=List.mem_singleton.1 hm;omega
  have PJ:=(bz.tr bg).tr bV;have rX:=b8.af (PJ.af vJ (by simp)) anr;have qs:=b8.af (PJ.af ux (by simp)) ans;have anu:=b8.af (PJ.af Ln (by simp)) ant;refine⟨fun _=>⟨trivial,rX⟩,?_⟩;refine bm ?_;refine au ?_;refine bC (fun w'=>ak w' x6 [.slice av 0 aY,.slice ab 0 bh] 75∧ak w' x7 [.int .i64 e.1,.int .i64 e.2] 34) [] bE ?_;have rY:ae [] dB dB.drew:=(ae.refl _ _).drew;generalize dB.drew=fj at*;have l9:=And.intro (rY.af qs (by simp)) (rY.af rX (by simp));refine aI 0 (.agg #[.slice av 0 aY,.slice ab 0 bh]) rfl (fun w9 aq=>bF [.slice av 0 aY,.slice ab 0 bh] rfl (ak.range aq.1 (by rfl))) l9 ?_;refine tk 1 ?_;refine aI 2 _ rfl (fun w9 aq=>aB rfl (ak.cell aq.2 (by rfl))) l9 ?_;refine yO 3 ?_;refine a8 4 rfl (aH [.slice av 0 aY,.slice ab 0 bh] rfl nI (rY.af anu (by simp)) (by simp[pz]) (oJ _ _ _ _ _ _) ?_);intro iW Ca bZ tg;rw[bs (by rfl)]at tg;refine⟨fun _=>⟨bZ.af l9.1 (by simp;omega),bZ.af l9.2 (by simp;omega)⟩,?_⟩;refine tk 5 ?_;refine bm ?_;refine df func29 (.inr (.inr (.inr (.inl ⟨_,_,_,_,_,_,rfl,rfl,cV hT tg rfl,rfl,rfl⟩)))) ⟨av,ab,_,aY,_,bh,rfl,?_,?_⟩
  ·rw[show L++eN e_ [e.1,e.2]=L++(e_++[32]++Lib.itoa e.1++[32]++Lib.itoa e.2)++[10] by simp[eN,jN]];exact(mg.aA rY).keep bZ fun k hk hm=>by
    have:=(h.lt k hk).2;rw[List.mem_singleton.1 hm]at this;omega
  ·exact((qT.bG.tr b8).dt rY).aO bZ (by omega)
 | ok y=>
  rw[hX]at vJ ux qz;have e0:(yo (.ok y:Except bp (List aJ×List ST))).1=0:=rfl;refine aL ?_;refine au ?_;refine bC (fun w'=>ak w' x6 [.slice av y.1.length aY,.slice ab y.2.length bh] 75∧ak w' x7 [.int .i64 0,.int .i64 0] 34) [] bE ?_;have bz:ae [] w7 w7.drew:=(ae.refl _ _).drew;generalize w7.drew=w8 at*;have hS:ak w8 x6 [.slice av y.1.length aY,.slice ab y.2.length bh] 75∧ak w8 x7 [.int .i64 0,.int .i64 0] 34:=⟨bz.af ux (by simp),bz.af vJ (by simp)⟩;refine aI 0 (.agg #[.slice av y.1.length aY,.slice ab y.2.length bh]) rfl (fun w9 aq=>bF [.slice av y.1.length aY,.slice ab y.2.length bh] rfl (aq.1.range (by rfl))) hS ?_;refine tk 1 ?_;refine aI 2 (.int .i64 0) rfl (fun w9 aq=>aB rfl (aq.2.cell rfl)) hS ?_;refine yN 3 ?_;refine a8 4 rfl (aH [.slice av y.1.length aY,.slice ab y.2.length bh] rfl nI (bz.af Ln (by simp)) (by simp[pz]) (oJ _ _ _ _ _ _) ?_);intro w9 n_ bg lX;rw[bs (by rfl)]at lX;refine⟨fun _=>⟨bg.af hS.1 (by simp;omega),bg.af hS.2 (by simp;omega)⟩,?_⟩;refine tk 5 ?_;refine bm ?_;have Z8:ae [x2] w3 w9:=((zZ.tr bz).bG).tr bg;have dd:∀k,F k→k∉[x2]:=fun k hk hm=>by
   have:=(mH k hk).1;rw[List.mem_singleton.1 hm]at this;have:=(an.af aM (by simp)).lt;omega
  exact df func29 (.inr (.inr (.inr (.inl ⟨_,_,_,_,_,_,rfl,rfl,cV hT lX rfl,rfl,rfl⟩)))) ⟨av,ab,_,aY,_,bh,F,rfl,qz.keep Z8 (fun k hk=>⟨(mH k hk).2,dd k hk⟩),fun k hk=>Nat.lt_of_lt_of_le (L8 k hk) Z8.size,(lF.tr bz).aO bg (by omega)⟩
end
section
variable{B:Nat}{w w1:World}{r:Nat}{L:List UInt8}{tv iv bv:Value}{fb fi:List Nat}{s:Ds}
theorem Rv.xF(h:Rv B w r L tv iv bv fb fi s){fb':List Nat}{cnt:Nat}{o:Option (List aJ×List ST×List Int×Lf)}(hk:ae fb w w1)(hl:AE B w1 bv fb' fi o)(fW:∀k∈fb',k∈fb∨w.heap.size≤k)(Mq:∀k∈fi,k∉fb):Rv B w1 r L tv iv bv fb' fi {s with fZ:=o,cnt:=cnt}∧Tn (vL r tv iv fb fi) (vL r tv iv fb' fi) w w1:=by
 have az:=h.lt;have pL:∀k,k=r∨k∈aW tv∨k∈aW iv→k∉fb:=fun k aK hm=>by
  obtain⟨a,b,c⟩:=h.dj k hm;rcases aK with h1|h1|h1
  ·exact a h1
  ·exact b h1
  ·exact c h1
 have new:∀k∈fb',¬(k=r∨k∈aW tv∨k∈aW iv):=fun k aK hm=>by
  rcases fW k aK with h1|h1
  ·exact pL k hm h1
  ·have:=(az k (f_.2 (hm.imp id fun h=>h.imp id .inl))).2;omega
 refine⟨⟨hk.af h.bk (pL r (.inl rfl)),h.lo,h.tx.keep hk fun k aK=>pL k (.inr (.inl (iM.2 aK))),h.ip.keep hk fun k aK=>pL k (.inr (.inr aK)),hl,fun k aK=>let⟨a,X,hX⟩:=h.rd k aK;⟨a,X,hk.af hX (Mq k aK)⟩,fun k aK=>⟨fun e=>new k aK (.inl e),fun e=>new k aK (.inr (.inl e)),fun e=>new k aK (.inr (.inr e))⟩⟩,hk.mono fun k aK=>.inl (f_.2 (.inr (.inr (.inr (.inl aK))))),fun k aK=>?_⟩;rcases f_.1 aK with h1|h1|h1|h1|h1
 ·exact .inl (f_.2 (.inl h1))
 ·exact .inl (f_.2 (.inr (.inl h1)))
 ·exact .inl (f_.2 (.inr (.inr (.inl h1))))
 ·exact(fW k h1).imp (fun h=>f_.2 (.inr (.inr (.inr (.inl h))))) id
 ·exact .inl (f_.2 (.inr (.inr (.inr (.inr h1)))))
end
section
variable{w00 w:World}{r:Nat}{fr:List Nat}{L:List UInt8}{s:Ds}
theorem stepR_ret(sp:Sp)(hw:Lw w00)(bX:ae [] w00 w)(h:iw w00.heap.size w r fr L s)(cT:j7 s)(hL:L.length≤700000000000)(mr:s.cnt≤300000)(vd:s.fZ.isSome=true):aC prog 34 [.pointer (some ⟨r,0,none⟩),.agg (jU sp).toArray] w fun q w'=>q=.tuple #[]∧mf w00 w w' r fr (L++(gE s sp).2) (gE s sp).1:=by
 obtain⟨⟨vs,body,inp,x⟩,hx⟩:=Option.isSome_iff_exists.1 vd;obtain⟨tv,iv,bv,fb,fi,hR,y9⟩:=id h;have xA:=hR.lf;rw[hx]at xA;obtain⟨b,cv,ivb,rr,n,rfl,lM,hnw,uD,Ih,Mq,tu⟩:=xA;obtain⟨cX,o2,fF,_,g,hg,B8⟩:=cT.lf _ _ _ _ hx;obtain⟨bw,du⟩:=tP cX;obtain⟨c,hc,u3,hP⟩:=zv cX bw;have E7:(aT vs).toNat=c:=by omega
 rw[E7]at B8;have oY:=h.lt r h.mem;refine aG 24 func34 ?_;refine au ?_;refine aj (bY (jU sp) rfl ?_);intro w1 x3 fX bt ah cm;refine au ?_;refine ai (.agg (jU sp).toArray) (bF (jU sp) rfl (cm.range (by rfl))) ?_;refine oC (ada sp w1) ?_;rintro q w2⟨rfl,an⟩;have br:=ah.tr an;have gZ:=an.af cm (by simp);refine au ?_;by_cases hf:jA sp=0
 rotate_left
 ·have e:gE s sp=(s,eN e_ [jA sp]):=by
   unfold gE;rw[hx];simp only;rw[if_neg hf]
  rw[e];refine ye ?_;refine oC (wB (A5 sp) (hw.lt.keep (bX.tr br))) ?_;rintro q w3⟨rfl,aw⟩;have hit:=Lib.itoa_length_le _ (A5 sp).1 (A5 sp).2;refine ai _ (val_add (e_++[32]) (Lib.itoa (jA sp)) rfl rfl rfl (by simp[e_];omega) w3) ?_;refine oC (Ep e_ (h.aA (br.tr aw)) (by simp[e_];omega) (A5 sp)) ?_;rintro q w4⟨rfl,h4,ax⟩;refine au ?_;exact df func34 (.inr (.inl ⟨rfl,rfl⟩)) ⟨rfl,mf.late (br.tr aw) ⟨fr,h4,ax.mono fun k hk=>.inl (by rw[List.mem_singleton.1 hk];exact h.mem),fun _ hk=>.inl hk⟩⟩
 have hle:=J3 (vs:=vs) (body:=body) (inp:=inp) hf x;have vH:=Gv sp;have e:gE s sp=({s with fZ:=some (vs,body,inp,(lh (bB vs body) inp sp x).1),cnt:=s.cnt+vI sp},eN yy [((lh (bB vs body) inp sp x).2:Nat)]):=by
  unfold gE;rw[hx];simp only;rw[if_pos hf]
 rw[e];have si:dm (((lh (bB vs body) inp sp x).2:Nat):Int):=by unfold dm;omega
 refine aL ?_;refine au ?_;refine bC (fun w'=>ae [] w2 w') [6,7,9] bE ?_;have hS:ae [] w2 w2.drew:=(ae.refl _ _).drew;generalize w2.drew=w3 at*;have bn:=br.tr hS;refine tk 0 ?_;refine tk 1 ?_;refine tk 2 ?_;refine tk 3 ?_;refine aI 4 (.pointer (some ⟨b,0,none⟩)) rfl (fun w9 aq=>aB rfl (((br.tr aq).af hR.bk (by simp)).cell rfl)) hS ?_;refine aI 5 (.agg (jU sp).toArray) rfl (fun w9 aq=>bF (jU sp) rfl ((ae.af aq gZ (by simp)).range (by rfl))) hS ?_;have mI:=hR.keep bn fun _ _=>by simp
 have cD:n≤w3.heap.size:=Nat.le_trans hnw bn.size;have y_:=uD.others hnw bn (fun _ _=>by simp) fun _ _ _ _=>by simp
 refine dC 6 (ajY (Q:=cN vs body 0) hP y_ B8 (by omega) (by show inp.length≤100000;omega) u3 sp hf) ?_;rintro q w4⟨rfl,rr',tG,ax,nq⟩;refine⟨fun h=>absurd (by simp) h,?_⟩;have anv:=tG.shift (n:=n) (xX cD);have anw:∀k∈fi,k∉fb:=fun k hk hm=>by
  rw[Ih]at hm;have h1:=(y_.own k hm).1;rw[xX cD]at h1;have:=tu k hk;omega
 subst Ih;obtain⟨o4,kf⟩:=mI.xF (cnt:=s.cnt+vI sp) (o:=some (vs,body,inp,(lh (bB vs body) inp sp x).1)) ax ⟨b,cv,ivb,rr',n,rfl,lM,Nat.le_trans cD ax.size,anv,rfl,Mq,tu⟩ nq anw;rw[←y9]at kf;have qB:iw w00.heap.size w4 r _ L {s with fZ:=some (vs,body,inp,(lh (bB vs body) inp sp x).1),cnt:=s.cnt+vI sp}:=⟨_,_,_,_,_,o4,rfl⟩;have dJ:=(h.aA bn).k0 (bX.tr bn) kf;refine dC 7 (wB si (hw.lt.keep dJ)) ?_;rintro q w5⟨rfl,aE⟩;refine⟨fun h=>absurd (by simp) h,?_⟩;have hit:=Lib.itoa_length_le _ si.1 si.2;refine bD 8 _ rfl (fun w=>val_add (yy++[32]) (Lib.itoa _) rfl rfl rfl (by simp[yy];omega) w) ?_;refine dC 9 (Ep yy (qB.aA aE) (by simp[yy];omega) si) ?_;rintro q w6⟨rfl,h6,aD⟩;refine⟨fun h=>absurd (by simp) h,?_⟩;refine bm ?_;exact bK func34 rfl ⟨rfl,mf.late bn (mf.on (kf.dt aE) ⟨_,h6,aD.mono fun k hk=>.inl (by rw[List.mem_singleton.1 hk];exact qB.mem),fun _ hk=>.inl hk⟩)⟩
theorem Bn(wd:List UInt8)(k:Nat){x4 x5:Nat}{lv nv:Value}{w0:List UInt8}{rs:List (List UInt8)}{n:List Int}(hl:gz w lv (w0::rs))(h4:ak w x4 [lv] 22)(h5:ak w x5 [nv] 28)(hn:∃a c,nv=.slice a n.length c):aC prog 28 [.string (str wd),.int .i64 (k:Nat),.pointer (some ⟨x4,0,none⟩),.pointer (some ⟨x5,0,none⟩)] w fun q w'=>q=.bool (decide (w0=wd∧n.length=k))∧w'=w:=by
 obtain⟨b,q,cap,rfl,_,fB⟩:=hl.at (i:=0) (x:=w0) rfl;obtain⟨na,nc,rfl⟩:=hn;refine aG 18 func28 ?_;refine lB h4 ?_;refine ai _ (bJ (len:=rs.length+1) 0 rfl (by omega) w) ?_;refine ai _ (aB rfl (by simpa using fB)) ?_;refine au ?_;by_cases e:w0=wd
 rotate_left
 ·refine ai (.bool false) (o_ _ _ _ rfl rfl rfl (by rw[ji,ji];simpa using e) w) ?_;refine au ?_;exact ay func28 rfl ⟨by simp[e],rfl⟩
 refine ai (.bool true) (o_ _ _ _ rfl rfl rfl (by rw[ji,ji];simpa using e) w) ?_;refine lB h5 ?_;refine au ?_;by_cases e2:n.length=k
 ·refine ye ?_;refine au ?_;exact ay func28 rfl ⟨by simp[e,e2],rfl⟩
 ·refine aL ?_;refine au ?_;exact ay func28 rfl ⟨by simp[e2],rfl⟩
end
theorem Vy(l:List UInt8)(hl:l.length≤2000000)(w:World):aC prog 11 [.string (str l)] w fun r w'=>Own w' w.heap.size TS 1 r (kh l).length (strs (kh l))∧ae [] w w':=by
 refine aG 36 func11 ?_;refine au ?_;refine cP (fun t σ w'=>∃(i:Nat) (ov:Value) (cur:List UInt8) (acc:List (List UInt8)),i≤l.length+1∧t=l.length+1-i∧σ=[(0,.string (str l)),(3,ov),(4,.string (str cur)),(5,.int .i64 (i:Nat))]∧Own w' w.heap.size TS 1 ov acc.length (strs acc)∧acc.length≤i∧cur.length≤i∧
   (i≤l.length→acc++kF cur (l.drop i)=kh l)∧(l.length<i→acc=kh l)∧ae [] w w')
  (l.length+1) _ ?_ ⟨0,_,[],[],Nat.zero_le _,rfl,rfl,Own.nil _ _ _ _,Nat.le_refl _,Nat.le_refl _,fun _=>rfl,fun h=>absurd h (by omega),ae.refl _ _⟩ ?_
 ·exact⟨rfl,rfl,rfl,rfl,trivial⟩
 rintro t σ w2 ih⟨i,ov,cur,acc,hi,rfl,rfl,bW,oV,ek,h1,h2,hk⟩;refine au ?_;refine ai (.int .i64 (l.length:Nat)) (p_ l (by decide+kernel) rfl rfl w2) ?_;by_cases az:i≤l.length
 rotate_left
 ·refine aL ?_;refine au ?_;have:=h2 (by omega);subst this;exact ay func11 rfl ⟨bW,hk⟩
 refine ye ?_;refine au ?_;refine ai (.int .i64 (l.length:Nat)) (p_ l (by decide+kernel) rfl rfl w2) ?_;replace h1:=h1 az;have fin:∀{w3:World} {Mm:Value} {B_:List (List UInt8)},Own w3 w.heap.size TS 1 Mm B_.length (strs B_)→B_.length≤i+1→(i+1≤l.length→B_++kF [] (l.drop (i+1))=kh l)→(l.length<i+1→B_=kh l)→ae [] w w3→_:=fun{w3 Mm B_} g1 g2 g3 g4 g5=>ih (l.length+1-(i+1)) [(0,.string (str l)),(3,Mm),(4,.string (str [])),(5,.int .i64 ((i+1:Nat):Int))] w3 (by omega) ⟨i+1,Mm,[],B_,by omega,rfl,rfl,g1,g2,by simp,g3,g4,g5⟩;by_cases iY:i<l.length
 ·have ig:l.drop i=l[i]::l.drop (i+1):=List.drop_eq_getElem_cons iY;refine ye ?_;refine au ?_;refine ai _ (wo l i l[i] (by decide+kernel) rfl rfl rfl rfl (List.getElem?_eq_getElem iY) w2) ?_;rw[ig]at h1;by_cases hc:l[i]=32
  ·have E5:(l[i]).toNat=32:=by rw[hc];rfl
   rw[hc]at h1;simp only[kF,if_true]at h1;refine aL ?_;refine au ?_;by_cases qk:cur=[]
   ·subst qk;refine ai _ (tW [] [] false rfl rfl rfl rfl w2) ?_;refine nM ((i+1:Nat):Int) ?_;refine au ?_;refine bj ?_ (fin bW (by omega) (fun _=>by simpa using h1) (fun h=>by omega) hk);exact⟨rfl,rfl,rfl,rfl,trivial⟩
   ·rw[if_neg qk]at h1;refine ai _ (tW cur [] true rfl rfl rfl (by simp[qk]) w2) ?_;refine au ?_;refine aj (eE _ _ rfl rfl (JL cur) ?_);intro w3 g hg cw aw aQ;refine aj (ja w.heap.size TS 1 16 (strs acc) [.string (str cur)] rfl rfl rfl (by decide+kernel) (bW.keep aw fun _ _=>by simp) (aQ.range rfl) rfl (lg rfl) (by decide) (by unfold maxLen;omega) (by omega) (hk.tr aw).size ?_);intro g4 Qy w4 zN Qz;have ax:ae [] w w4:=by
     rcases Qz with⟨e1,_,e3⟩|⟨_,e2,_⟩
     ·exact(hk.tr aw).aO e3 (bW.lt g4 e1).1
     ·exact(hk.tr aw).tr e2
    have qu:Own w4 w.heap.size TS 1 (.slice (some ⟨g4,0,none⟩) (acc.length+1) Qy) (acc++[cur]).length (strs (acc++[cur])):=by
     have e1:strs acc++[.string (str cur)]=strs (acc++[cur]):=by simp[strs]
     have e2:acc.length+1=(acc++[cur]).length:=by simp
     rw[e1]at zN;rw[←e2];exact zN
    refine nM ((i+1:Nat):Int) ?_;refine au ?_;refine bj ?_ (fin qu (by simp;omega) (fun _=>by simpa using h1) (fun h=>by omega) ax);exact⟨rfl,rfl,rfl,rfl,trivial⟩
  ·have E5:(l[i]).toNat≠32:=fun e=>hc (UInt8.toNat_inj.1 e);have ru:acc++kF (cur++[l[i]]) (l.drop (i+1))=kh l:=by
    rw[←h1];simp only[kF,if_neg hc]
   refine ye ?_;refine nM ((i+1:Nat):Int) ?_;refine ai _ (Gc l i (i+1) (by decide+kernel) rfl rfl rfl rfl rfl rfl (by omega) (by omega) w2) ?_;rw[show(l.drop i).take (i+1-i)=[l[i]] by rw[ig,show i+1-i=1 by omega];rfl];refine ai _ (val_add cur [l[i]] rfl rfl rfl (by simp;omega) w2) ?_;refine nM ((i+1:Nat):Int) ?_;refine au ?_;refine bj ?_ (ih (l.length+1-(i+1)) [(0,.string (str l)),(3,ov),(4,.string (str (cur++[l[i]]))),(5,.int .i64 ((i+1:Nat):Int))] w2 (by omega) ⟨i+1,ov,cur++[l[i]],acc,by omega,rfl,rfl,bW,by omega,by simp;omega,fun _=>ru,fun h=>by omega,hk⟩);exact⟨rfl,rfl,rfl,rfl,trivial⟩
 ·have fF:i=l.length:=by omega
  have ig:l.drop i=[]:=List.drop_eq_nil_of_le (by omega);rw[ig]at h1;simp only[kF]at h1;refine aL ?_;refine au ?_;by_cases qk:cur=[]
  ·subst qk;refine ai _ (tW [] [] false rfl rfl rfl rfl w2) ?_;refine nM ((i+1:Nat):Int) ?_;refine au ?_;refine bj ?_ (fin bW (by omega) (fun h=>by omega) (fun _=>by simpa using h1) hk);exact⟨rfl,rfl,rfl,rfl,trivial⟩
  ·rw[if_neg qk]at h1;refine ai _ (tW cur [] true rfl rfl rfl (by simp[qk]) w2) ?_;refine au ?_;refine aj (eE _ _ rfl rfl (JL cur) ?_);intro w3 g hg cw aw aQ;refine aj (ja w.heap.size TS 1 16 (strs acc) [.string (str cur)] rfl rfl rfl (by decide+kernel) (bW.keep aw fun _ _=>by simp) (aQ.range rfl) rfl (lg rfl) (by decide) (by unfold maxLen;omega) (by omega) (hk.tr aw).size ?_);intro g4 Qy w4 zN Qz;have ax:ae [] w w4:=by
    rcases Qz with⟨e1,_,e3⟩|⟨_,e2,_⟩
    ·exact(hk.tr aw).aO e3 (bW.lt g4 e1).1
    ·exact(hk.tr aw).tr e2
   have qu:Own w4 w.heap.size TS 1 (.slice (some ⟨g4,0,none⟩) (acc.length+1) Qy) (acc++[cur]).length (strs (acc++[cur])):=by
    have e1:strs acc++[.string (str cur)]=strs (acc++[cur]):=by simp[strs]
    have e2:acc.length+1=(acc++[cur]).length:=by simp
    rw[e1]at zN;rw[←e2];exact zN
   refine nM ((i+1:Nat):Int) ?_;refine au ?_;refine bj ?_ (fin qu (by simp;omega) (fun h=>by omega) (fun _=>h1) ax);exact⟨rfl,rfl,rfl,rfl,trivial⟩
section
variable{B:Nat}{w w1 w2:World}{r:Nat}{L:List UInt8}{tv iv bv:Value}{fb fi:List Nat}{s:Ds}
theorem Rv.ug(h:Rv B w r L tv iv bv fb fi s){qy:Value}{t:List (List UInt8)}(ah:ae (aW tv) w w1)(ho:Own w1 B TS 1 qy t.length (strs t))(fW:∀k∈aW qy,k∈aW tv∨w.heap.size≤k)(hk:ae [r] w1 w2)(hb:ak w2 r [.string (str L),qy,iv,bv] TR):Rv B w2 r L qy iv bv fb fi {s with bI:=t}∧Tn (vL r tv iv fb fi) (vL r qy iv fb fi) w w2:=by
 obtain⟨n1,n2,n3,n4,n5⟩:=h.ne;have n0:∀{k:Nat},k∈[r]→k=r:=fun h=>List.mem_singleton.1 h;have fh:ak w1 r [.string (str L),tv,iv,bv] TR:=ah.af h.bk n1;refine⟨⟨hb,h.lo,ho.keep hk fun k aK hm=>?_,(h.ip.keep ah fun k aK hm=>(n5 k hm).1 aK).keep hk fun k aK hm=>n2 (by rw[←n0 hm];exact aK),(h.lf.keep ah (fun k aK=>(h.dj k aK).2.1) fun k aK hm=>(n5 k hm).2 aK).keep hk (fun k aK hm=>(h.dj k aK).1 (n0 hm)) fun k aK hm=>n3 (by rw[←n0 hm];exact aK),fun k aK=>?_,fun k aK=>⟨(h.dj k aK).1,fun hm=>?_,(h.dj k aK).2.2⟩⟩,?_,fun k aK=>?_⟩
 ·obtain⟨X,hX⟩:=mj ho k (iM.2 aK);rw[n0 hm]at hX;exact ak.ne fh hX QA rfl
 ·obtain⟨a,X,hX⟩:=h.rd k aK;exact⟨a,X,hk.af (ah.af hX fun hm=>(n5 k hm).2 aK) fun hm=>n3 (by rw[←n0 hm];exact aK)⟩
 ·rcases fW k hm with h1|h1
  ·exact(h.dj k aK).2.1 h1
  ·have:=(h.lf.lt k aK).2;omega
 ·exact(ah.mono fun k aK=>.inl (f_.2 (.inr (.inl aK)))).tr (hk.mono fun k aK=>.inl (f_.2 (.inl (n0 aK))))
 ·rcases f_.1 aK with h1|h1|h1|h1|h1
  ·exact .inl (f_.2 (.inl h1))
  ·exact(fW k h1).imp (fun h=>f_.2 (.inr (.inl h))) id
  ·exact .inl (f_.2 (.inr (.inr (.inl h1))))
  ·exact .inl (f_.2 (.inr (.inr (.inr (.inl h1)))))
  ·exact .inl (f_.2 (.inr (.inr (.inr (.inr h1)))))
end
theorem ajZ:((prog.info? 22).bind (·.zero)).map (·.cells)=some [Value.slice none 0 0].toArray:=by kernel_rfl
theorem aj0:dH prog 29 1=true:=by kernel_rfl
section
variable{w00 w:World}{r:Nat}{fr:List Nat}{L:List UInt8}{s:Ds}
theorem iw.vg{w1 w2:World}{L2:List UInt8}(h:iw w00.heap.size w r fr L s)(hk:ae [] w w1)(h2:iw w00.heap.size w2 r fr L2 s)(an:ae [r] w1 w2):mf w00 w w2 r fr L2 s:=⟨fr,h2,hk.bG.tr (an.mono fun k hm=>.inl (by rw[List.mem_singleton.1 hm];exact h.mem)),fun _ hk=>.inl hk⟩
theorem agE(l:List UInt8)(hw:Lw w00)(bX:ae [] w00 w)(h:iw w00.heap.size w r fr L s)(cT:j7 s)(hL:L.length≤600000000000)(pS:fD s.bI≤100000)(iY:s.inp.length≤100000)(mr:s.cnt≤300000)(hl:l.length≤100000):aC prog 16 [.pointer (some ⟨r,0,none⟩),.string (str l)] w fun q w'=>q=.tuple #[]∧mf w00 w w' r fr (L++(jD s l).2) (jD s l).1:=by
 obtain⟨tv,iv,bv,fb,fi,hR,y9⟩:=id h;obtain⟨ta,tc,htv⟩:=hR.tx.form;have ox:=F6 s.bI;refine aG 236 func16 ?_;refine bT ?_;refine fx (fun σ' w'=>¬l.head?=some 124∧w'=w∧Sub [(0,.pointer (some ⟨r,0,none⟩)),(1,.string (str l))] σ') ?_ ?_
 rotate_left
 ·intro join;refine au ?_;refine ai (.int .i64 (l.length:Nat)) (p_ l (by decide+kernel) rfl rfl w) ?_;by_cases qX:l.head?=some 124
  ·obtain⟨t,rfl⟩:∃t,l=124::t:=by
    cases l with
    |nil=>cases qX
    |cons c t=>
     simp only[List.head?_cons,Option.some.injEq]at qX;exact⟨t,by rw[qX]⟩
   have e:jD s (124::t)=({s with bI:=s.bI++[t]},[]):=by unfold jD;rw[if_pos qX];rfl
   rw[e,List.append_nil];simp only[List.length_cons]at hl⊢;refine ye ?_;refine au ?_;refine ai _ (wo (124::t) 0 124 (by decide+kernel) rfl rfl rfl rfl rfl w) ?_;refine ye ?_;refine au ?_;refine bC (fun w'=>True∧ak w' r [.string (str L),tv,iv,bv] TR) [11] bE ?_;have bz:ae [] w w.drew:=(ae.refl _ _).drew;generalize w.drew=w2 at*;have pU:=hR.keep bz fun _ _=>by simp
   have hS:True∧ak w2 r [.string (str L),tv,iv,bv] TR:=⟨trivial,pU.bk⟩;refine tk 0 ?_;refine tk 1 ?_;refine tk 2 ?_;refine tk 3 ?_;refine aI 4 tv rfl (fun w9 aq=>aB rfl (aq.2.cell rfl)) hS ?_;refine tk 5 ?_;refine bD 6 _ rfl (fun w=>N5 (124::t) 1 (by decide+kernel) rfl rfl rfl rfl (by simp) w) ?_;refine a8 7 rfl (eE _ _ rfl rfl (JL t) ?_);intro w4 g hg cz ax a_;have o4:=pU.keep ax fun _ _=>by simp
   refine⟨fun _=>⟨trivial,o4.bk⟩,?_⟩;refine a8 8 rfl (ja w00.heap.size TS 1 16 (strs s.bI) [.string (str t)] rfl rfl rfl (by decide+kernel) o4.tx (a_.range rfl) rfl (lg rfl) (by decide) (by unfold maxLen;omega) (by omega) ((bX.tr bz).tr ax).size ?_);intro g5 u7 w5 qh G7;have xD:ae (aW tv) w4 w5:=by
    rcases G7 with⟨h1,_,h3⟩|⟨_,h2,_⟩
    ·exact h3.mono fun k hk=>.inl (by rw[List.mem_singleton.1 hk];exact iM.2 h1)
    ·exact h2.bG
   have fW:∀k∈aW (.slice (some ⟨g5,0,none⟩) (s.bI.length+1) u7),k∈aW tv∨w4.heap.size≤k:=fun k hk=>by
    simp only[aW,Value.ownBlock,Option.toList_some,List.mem_singleton]at hk;subst hk;rcases G7 with⟨h1,_⟩|⟨h1,_⟩
    ·exact .inl (iM.2 h1)
    ·exact .inr (by omega)
   have mA:strs s.bI++[.string (str t)]=strs (s.bI++[t]):=by simp[strs]
   have lZ:s.bI.length+1=(s.bI++[t]).length:=by simp
   rw[mA]at qh;have Pb:Own w5 w00.heap.size TS 1 (.slice (some ⟨g5,0,none⟩) (s.bI.length+1) u7) (s.bI++[t]).length (strs (s.bI++[t])):=by
    rw[←lZ];exact qh
   have pT:=xD.af o4.bk o4.ne.1;refine⟨fun _=>⟨trivial,pT⟩,?_⟩;refine tk 9 ?_;refine tk 10 ?_;refine a8 11 rfl (aH [.slice (some ⟨g5,0,none⟩) (s.bI.length+1) u7] rfl FU pT (by simp) (lg rfl) ?_);intro w6 iI aD CK;have Qt:ak w6 r [.string (str L),.slice (some ⟨g5,0,none⟩) (s.bI.length+1) u7,iv,bv] TR:=CK;obtain⟨vM,y6⟩:=o4.ug xD Pb fW aD Qt;rw[←y9]at y6;refine⟨fun h=>absurd (by simp) h,?_⟩;refine bm ?_;exact df func16 (.inr (.inl ⟨rfl,rfl⟩)) ⟨rfl,mf.late (bz.tr ax) ⟨_,⟨_,_,_,_,_,vM,rfl⟩,y6⟩⟩
  cases l with
  |nil=>
   refine aL ?_;refine aP ?_;exact join _ _ ⟨qX,rfl,⟨rfl,rfl,trivial⟩⟩
  |cons c t=>
   have hc:¬c=124:=fun e=>qX (by rw[e];rfl);have E5:c.toNat≠124:=fun e=>hc (UInt8.toNat_inj.1 e);simp only[List.length_cons]at hl⊢;refine ye ?_;refine au ?_;refine ai _ (wo (c::t) 0 c (by decide+kernel) rfl rfl rfl rfl rfl w) ?_;refine aL ?_;refine aP ?_;exact join _ _ ⟨qX,rfl,⟨rfl,rfl,trivial⟩⟩
 rintro σ' w'⟨qX,rfl,bH⟩;refine bj bH ?_;have e:jD s l=qi s (kh l):=by unfold jD;rw[if_neg qX]
 rw[e];refine oC (Vy l (by omega) w') ?_;rintro lv w1⟨Zf,ah⟩;obtain⟨wa,wc,qw⟩:=Zf.form;refine au ?_;refine aj (bO _ rfl ajZ ?_);intro w2 x4 cy cE an aX;refine aj (xS [lv] rfl rfl rfl (by rw[qw];rfl) FU aX (by simp) (lg (by rw[qw];rfl)) ?_);intro w3 cw aw aQ;have fk:ak w3 x4 [lv] 22:=aQ;have z01:=ah.size;have bZ:ae [] w1 w3:=an.aO aw (by omega);have bn:=ah.tr bZ;have th:=Kl (Zf.keep bZ fun _ _=>by simp);obtain⟨Qu,Qv⟩:=FK l [];have GA:(kh l).length≤100000:=by have:(kh l).length≤0+l.length:=Qu;omega
 have GB:∀x∈kh l,x.length≤100000:=fun x hx=>by have:x.length≤0+l.length:=Qv x hx;omega
 refine lB fk ?_;subst qw;refine au ?_;cases qA:kh l with
 |nil=>
  refine ye ?_;refine au ?_;refine df func16 (.inr (.inl ⟨rfl,rfl⟩)) ⟨rfl,mf.late bn ⟨fr,?_,Tn.refl _ _⟩⟩;simpa[qi]using h.aA bn
 | cons w0 rs=>
  rw[qA]at th fk GA GB;simp only[List.length_cons]at fk th GA⊢;refine aL ?_;refine au ?_;refine aj (bO _ rfl OJ ?_);intro w4 x5 gw cz ax jg;have anx:=ax.af fk (by simp);have anz:x4≠x5:=by have:=fk.lt;omega
  have G_:=th.aA ax;have dJ:=bn.tr ax;refine au ?_;have PK:∀{w5:World} {Q:Value→World→Prop},ae [] w' w5→(∀w6,iw w00.heap.size w6 r fr (L++eN sO []) s→ae [r] w5 w6→Q (.tuple #[]) w6)→aC prog 27 [.pointer (some ⟨r,0,none⟩),.string (str sO)] w5 Q:=fun{w5 Q} hk hQ=>(DO sO (h.aA hk) (by simp[sO];omega)).mono fun q w6 ⟨h1,h2,h3⟩=>by
   rw[h1];refine hQ w6 ?_ h3;rw[show L++eN sO []=L++sO++[10] by simp[eN,jN]];exact h2
  refine cP (fun t σ w'=>∃(j:Nat) (nv:Value) (n:List Int),j≤rs.length∧t=rs.length-j∧σ=[(0,.pointer (some ⟨r,0,none⟩)),(4,.pointer (some ⟨x4,0,none⟩)),(5,.pointer (some ⟨x5,0,none⟩)),(6,.int .i64 ((j+1:Nat):Int))]∧ly (rs.take j)=some n∧ak w' x5 [nv] 28∧bl w' w4.heap.size nv n∧ae [x5] w4 w')
   rs.length _ ?_ ⟨0,_,[],Nat.zero_le _,rfl,rfl,rfl,jg,bl.nil _ _,ae.refl _ _⟩ ?_
  ·exact⟨rfl,rfl,rfl,rfl,trivial⟩
  clear jg;rintro t σ w5 ih⟨j,nv,n,hj,rfl,rfl,hn,jg,bN,aE⟩;have cK:ae [] w' w5:=dJ.aO aE (by have:=bn.size;omega);have G6:=aE.af anx (by simp;exact anz);have Z9:gz w5 (.slice wa (rs.length+1) wc) (w0::rs):=G_.keep aE fun b q m c he h0 hm=>by
   have e:=List.mem_singleton.1 hm;obtain⟨a',iF,e',_,h3⟩:=th;rw[he]at e';injection e' with e1 _ _;obtain⟨b',q',e4,h4,_⟩:=h3 (by simp);rw[e4]at e1;cases e1;omega
  have uw:n.length=j:=by have:=(A2 hn).1;simp at this;omega
  obtain⟨na,nc,jT⟩:=bN.form;refine lB G6 ?_;refine au ?_;by_cases az:j<rs.length
  ·obtain⟨x,hx⟩:∃x,rs[j]?=some x:=⟨_,List.getElem?_eq_getElem az⟩;have CH:=List.mem_of_getElem? hx;obtain⟨b,q,cap,e1,kZ,fB⟩:=Z9.at (i:=j+1) (x:=x) (by simpa using hx);injection e1 with e1 _ e3;subst e1 e3;refine ye ?_;refine lB G6 ?_;refine au ?_;refine ai _ (bJ (len:=rs.length+1) (j+1) rfl (by omega) w5) ?_;refine ai _ (aB rfl (by simpa using fB)) ?_;refine oC (VB x (by have:=GB x (List.mem_cons_of_mem _ CH);omega) (hw.keep (bX.tr cK))) ?_;rintro q6 w6⟨rfl,aD⟩;have fy:=cK.tr aD;unfold D5;cases o2:pk x with
   |none=>
    refine au ?_;refine aj (aV (fst:=[]) (cap:=[]) rfl (PK fy fun w7 h7 aN=>?_));refine au ?_;refine df func16 (.inr (.inl ⟨rfl,rfl⟩)) ⟨rfl,?_⟩;rw[show qi s (w0::rs)=(s,eN sO []) by simp only[qi,Nd CH o2]];exact h.vg fy h7 aN
   | some k=>
    have Z_:=aD.af jg (by simp);refine lB Z_ ?_;refine au ?_;refine aj (eE _ _ rfl rfl (WA k) ?_);intro w7 g hg jr aN eC;have rR:bl w7 w4.heap.size nv n:=bN.keep (aD.tr aN) fun k _=>by simp
    have AG:w4.heap.size≤w7.heap.size:=Nat.le_trans aE.size (aD.tr aN).size;refine aj (ja w4.heap.size dA 1 8 (dZ n) [.int .i64 k] rfl rfl rfl (by decide+kernel) rR (eC.range rfl) rfl (lg rfl) (by decide) (by unfold maxLen;omega) (by omega) AG ?_);intro g8 BZ w8 mR aaa;have HH:dZ n++[.int .i64 k]=dZ (n++[k]):=by simp[dZ]
    have Qj:n.length+1=(n++[k]).length:=by simp
    rw[HH]at mR;have mS:bl w8 w4.heap.size (.slice (some ⟨g8,0,none⟩) (n.length+1) BZ) (n++[k]):=by
     have:=mR;rw[Qj]at this⊢;exact this
    have anA:ae [x5] w4 w8:=by
     rcases aaa with⟨h1,_,h3⟩|⟨_,h2,_⟩
     ·exact(aE.dt (aD.tr aN)).aO h3 (rR.lt g8 (iM.2 h1)).1
     ·exact(aE.dt (aD.tr aN)).dt h2
    have aab:ak w8 x5 [nv] 28:=by
     have QB:=aN.af Z_ (by simp);rcases aaa with⟨h1,_,h3⟩|⟨_,h2,_⟩
     ·exact h3.af QB fun hm=>by
       obtain⟨X,hX⟩:=mj rR g8 (iM.2 h1);rw[←List.mem_singleton.1 hm]at hX;exact ak.ne QB hX (by decide) rfl
     ·exact h2.af QB (by simp)
    refine au ?_;refine aj (aH [.slice (some ⟨g8,0,none⟩) (n.length+1) BZ] rfl FV aab (by simp) (lg rfl) ?_);intro w9 n_ bg lX;have Ha:ak w9 x5 [.slice (some ⟨g8,0,none⟩) (n.length+1) BZ] 28:=lX;refine nM ((j+1+1:Nat):Int) ?_;refine au ?_;refine bj ?_ (ih (rs.length-(j+1)) [(0,.pointer (some ⟨r,0,none⟩)),(4,.pointer (some ⟨x4,0,none⟩)),(5,.pointer (some ⟨x5,0,none⟩)),(6,.int .i64 ((j+1+1:Nat):Int))] w9 (by omega) ⟨j+1,_,n++[k],az,rfl,rfl,?_,Ha,mS.keep bg (fun kk jQ hm=>?_),anA.tr bg⟩)
    ·exact⟨rfl,rfl,rfl,rfl,trivial⟩
    ·rw[List.take_add_one,hx,Option.toList_some];exact Nc _ _ hn o2
    ·obtain⟨X,hX⟩:=mj mS kk jQ;rw[List.mem_singleton.1 hm]at hX;exact ak.ne aab hX (by decide) rfl
  have uB:rs.take j=rs:=List.take_of_length_le (by omega);rw[uB]at hn;have ew:qi s (w0::rs)=(gf s w0 n).getD (s,eN sO []):=by simp only[qi,hn]
  rw[ew];have Em:=(A2 hn).2;have np:∃a c,nv=.slice a n.length c:=⟨na,nc,jT⟩;have h5:=h.aA cK;have jV:=hR.keep cK fun _ _=>by simp
  have qj:∀k∈aW nv,w'.heap.size≤k:=fun k hk=>by
   have:=(bN.lt k hk).1;have:=dJ.size;omega
  clear ih;replace fk:=G6;replace th:=Z9;refine aL ?_;refine au ?_;refine aj (aV (fst:=[]) (cap:=[.pointer (some ⟨x4,0,none⟩),.pointer (some ⟨x5,0,none⟩)]) rfl ((Bn Le 0 th fk jg np).mono ?_));rintro q w6⟨rfl,rfl⟩;by_cases c1:w0=Le∧n.length=0
  ·rw[decide_eq_true c1];have eo:gf s w0 n=some ({s with bI:=[]},[]):=by unfold gf;rw[if_pos c1]
   rw[eo];simp only[Option.getD_some,List.append_nil];refine au ?_;refine aj (aH [.slice none 0 0] rfl FU jV.bk (by simp) (lg rfl) ?_);intro w7 jr aN y7;have QC:ak w7 r [.string (str L),.slice none 0 0,iv,bv] TR:=y7;obtain⟨Sc,o3⟩:=jV.ug (t:=[]) (ae.refl _ _) (Own.nil w6 _ TS 1) (fun k hk=>by simp[aW,Value.ownBlock]at hk) aN QC;rw[←y9]at o3;refine au ?_;exact bK func16 rfl ⟨rfl,mf.late cK ⟨_,⟨_,_,_,_,_,Sc,rfl⟩,o3⟩⟩
  rw[decide_eq_false c1];refine lB fk ?_;obtain⟨b0,q0,am_,vw,_,ak8⟩:=th.at (i:=0) (x:=w0) rfl;injection vw with vw _ e30;subst vw e30;refine ai _ (bJ (len:=rs.length+1) 0 rfl (by omega) w6) ?_;refine ai _ (aB rfl (by simpa using ak8)) ?_;by_cases c2:w0=Bu
  ·refine ai (.bool true) (o_ (str w0) (str Bu) _ rfl rfl rfl (by rw[ji,ji];simpa using c2) w6) ?_;have eo:gf s w0 n=some ({s with inp:=n},[]):=by unfold gf;rw[if_neg c1,if_pos c2]
   rw[eo];simp only[Option.getD_some,List.append_nil];refine lB jg ?_;refine au ?_;refine aj (xS [nv] rfl rfl rfl (by rw[jT];rfl) FV jV.bk (by simp) (lg (by rw[jT];rfl)) ?_);intro w7 jr aN y7;have QC:ak w7 r [.string (str L),tv,nv,bv] TR:=y7;have Sc:=jV.put (s':={s with inp:=n}) aN QC jV.tx (bN.low (Nat.le_trans bX.size dJ.size)) jV.lf jV.rd (fun k hk=>⟨(jV.dj k hk).1,(jV.dj k hk).2.1,fun hm=>by
    have h1:=qj k hm;have:=(hR.lt k (f_.2 (.inr (.inr (.inr (.inl hk)))))).2;omega⟩)
   refine au ?_;refine bK func16 rfl ⟨rfl,vL r tv nv fb fi,⟨_,_,_,_,_,Sc,rfl⟩,cK.bG.tr (aN.mono fun k hk=>.inl (by rw[List.mem_singleton.1 hk];exact h.mem)),fun k hk=>?_⟩;rw[y9];rcases f_.1 hk with h1|h1|h1|h1|h1
   ·exact .inl (f_.2 (.inl h1))
   ·exact .inl (f_.2 (.inr (.inl h1)))
   ·exact .inr (qj k h1)
   ·exact .inl (f_.2 (.inr (.inr (.inr (.inl h1)))))
   ·exact .inl (f_.2 (.inr (.inr (.inr (.inr h1)))))
  refine ai (.bool false) (o_ (str w0) (str Bu) _ rfl rfl rfl (by rw[ji,ji];simpa using c2) w6) ?_;refine au ?_;refine aj (aV (fst:=[]) (cap:=[.pointer (some ⟨x4,0,none⟩),.pointer (some ⟨x5,0,none⟩)]) rfl ((Bn KH 0 th fk jg np).mono ?_));rintro q w7⟨rfl,mD⟩;rw[mD];clear mD w7;by_cases c3:w0=KH∧n.length=0
  ·rw[decide_eq_true c3];have eo:gf s w0 n=some (jL s (qg s)):=by unfold gf;rw[if_neg c1,if_neg c2,if_pos c3]
   rw[eo];simp only[Option.getD_some];refine oC (TG hw (bX.tr cK) h5 pS (by omega)) ?_;intro q w7 hq;unfold jL;cases hX:j1 (Lib.join s.bI [10])with
   |error e=>
    rw[hX]at hq;obtain⟨av,jf,n1,xG,m1,gA,rfl,h7,aN⟩:=hq;refine au ?_;refine aj (bO _ rfl sH ?_);intro w8 Mr Er jP aS cB;refine aj (aH _ rfl nI cB (by simp[pz]) (oJ _ _ _ _ _ _) ?_);intro w9 n_ bg lX;have oT:ae [] w7 w9:=aS.aO bg (by omega);refine au ?_;exact df func16 (.inr (.inl ⟨rfl,rfl⟩)) ⟨rfl,h.vg cK (h7.aA oT) (aN.dt oT)⟩
   | ok y=>
    rw[hX]at hq;obtain⟨av,jf,n1,xG,m1,gA,F,rfl,hP,hF,aN⟩:=hq;obtain⟨g1,g2⟩:=zp hX;refine au ?_;refine aj (bO _ rfl sH ?_);intro w8 Mr Er jP aS cB;refine aj (aH [.slice av n1 xG,.slice jf m1 gA] rfl nI cB (by simp[pz]) (oJ _ _ _ _ _ _) ?_);intro w9 n_ bg lX;rw[bs (by rfl)]at lX;have oT:ae [] w7 w9:=aS.aO bg (by omega);have gY:=(cK.tr aN).tr oT;have tH:=hR.keep gY fun _ _=>by simp
    obtain⟨ia,gN,od⟩:=tH.ip.form;subst od;refine lB tH.bk ?_;refine au ?_;simp only;unfold qg;rw[Ju g1];by_cases Ii:s.inp.length≤40
    rotate_left
    ·rw[if_neg Ii,if_neg (by decide)];refine ye ?_;refine oC (wB (v:=1) (by unfold dm;decide) (hw.lt.keep (bX.tr gY))) ?_;rintro q bM⟨rfl,bV⟩;refine ai _ (val_add (e_++[32]) (Lib.itoa 1) rfl rfl rfl (by have:=Lib.itoa_length_le 1 (by decide) (by decide);simp[e_];omega) bM) ?_;refine oC (Ep e_ (h.aA (gY.tr bV)) (by simp[e_];omega) (n:=1) (by unfold dm;decide)) ?_;rintro q dB⟨rfl,mg,b8⟩;refine au ?_;exact df func16 (.inr (.inl ⟨rfl,rfl⟩)) ⟨rfl,h.vg (gY.tr bV) mg b8⟩
    rw[if_pos Ii,if_pos rfl];refine aL ?_;refine au ?_;obtain⟨bw,du⟩:=tP g1;obtain⟨c,hc,u3,hPr⟩:=zv g1 bw;refine bC (fun w'=>ae [] w9 w') [9] bE ?_;have hS:ae [] w9 w9.drew:=(ae.refl _ _).drew;generalize w9.drew=bM at*;have qT:=gY.tr hS;have Cc:=tH.keep hS fun _ _=>by simp
    refine tk 0 ?_;refine aI 1 (.agg #[.slice av n1 xG,.slice jf m1 gA]) rfl (fun w9 aq=>bF [.slice av n1 xG,.slice jf m1 gA] rfl ((ae.af aq lX (by simp)).range (by rfl))) hS ?_;refine tk 2 ?_;refine tk 3 ?_;refine tk 4 ?_;refine aI 5 (.slice ia s.inp.length gN) rfl (fun w9 aq=>aB rfl ((ae.af aq tH.bk (by simp)).cell rfl)) hS ?_;refine dC 6 (Tv (hP.keep (oT.tr hS) hF.stays) (hF.keep (oT.tr hS)) Cc.ip.nQ g1 bw hc u3) ?_;rintro q dB⟨bb,cv,rr,rfl,xd⟩;refine⟨fun _=>hS.tr xd.kp,?_⟩;refine tk 7 ?_;refine tk 8 ?_;have BN:=qT.tr xd.kp;have Et:=Cc.keep xd.kp fun _ _=>by simp
    have hsh:=xd.shift (n:=bM.heap.size) rfl;have qP:=xd.own;refine a8 9 rfl (aH [.pointer (some ⟨bb,0,none⟩)] rfl aj0 Et.bk (by simp) (lg rfl) ?_);intro fj u6 di anB;have alT:ak fj r [.string (str L),tv,.slice ia s.inp.length gN,.pointer (some ⟨bb,0,none⟩)] TR:=anB;refine⟨fun h=>absurd (by simp) h,?_⟩;refine bm ?_;have E7:(aT y.1).toNat=c:=by omega
    have QD:=Cc.lt;have anC:=Et.put (fb':=dz bb cv rr) (fi':=aW (.slice ia s.inp.length gN)) (s':={s with fZ:=some (y.1,y.2,s.inp,E1 (aT y.1).toNat)}) di alT Et.tx Et.ip (by
     rw[E7];exact⟨bb,cv,_,rr,bM.heap.size,rfl,Nat.le_trans bX.size qT.size,xd.kp.size,hsh,rfl,rfl,fun k hk=>(Cc.ip.lt k hk).2⟩) (fun k hk=>⟨(Et.ip.lt k hk).1,mj Et.ip k hk⟩) (fun k hk=>by
     have h1:=(qP k hk).1;refine⟨fun e=>?_,fun hm=>?_,fun hm=>?_⟩
     ·have:=(QD k (f_.2 (.inl e))).2;omega
     ·have:=(QD k (f_.2 (.inr (.inl hm)))).2;omega
     ·have:=(QD k (f_.2 (.inr (.inr (.inl hm))))).2;omega)
    have anD:Tn fr (vL r tv (.slice ia s.inp.length gN) (dz bb cv rr) (aW (.slice ia s.inp.length gN))) w' fj:=by
     rw[y9];refine⟨BN.bG.tr (di.mono fun k hk=>.inl (f_.2 (.inl (List.mem_singleton.1 hk)))),fun k hk=>?_⟩;rcases f_.1 hk with h1|h1|h1|h1|h1
     ·exact .inl (f_.2 (.inl h1))
     ·exact .inl (f_.2 (.inr (.inl h1)))
     ·exact .inl (f_.2 (.inr (.inr (.inl h1))))
     ·exact .inr (Nat.le_trans qT.size (qP k h1).1)
     ·exact .inl (f_.2 (.inr (.inr (.inl h1))))
    have yC:iw w00.heap.size fj r _ L {s with fZ:=some (y.1,y.2,s.inp,E1 (aT y.1).toNat)}:=⟨_,_,_,_,_,anC,rfl⟩;refine oC (DO Az yC (by simp[Az];omega)) ?_;rintro q iW⟨rfl,Sd,bZ⟩;refine au ?_;refine bK func16 rfl ⟨rfl,mf.on anD ⟨_,?_,bZ.mono fun k hk=>.inl (by rw[List.mem_singleton.1 hk];exact yC.mem),fun _ hk=>.inl hk⟩⟩;rw[show L++eN Az []=L++Az++[10] by simp[eN,jN]];exact Sd
  rw[decide_eq_false c3];refine au ?_;refine aj (aV (fst:=[]) (cap:=[.pointer (some ⟨x4,0,none⟩),.pointer (some ⟨x5,0,none⟩)]) rfl ((Bn zE 1 th fk jg np).mono ?_));rintro q w7⟨rfl,mD⟩;rw[mD];clear mD w7;by_cases c4:w0=zE∧n.length=1
  ·rw[decide_eq_true c4];have eo:gf s w0 n=some (jL s (tY s (n.getD 0 0))):=by unfold gf;rw[if_neg c1,if_neg c2,if_neg c3,if_pos c4]
   rw[eo];simp only[Option.getD_some];obtain⟨g,cap,qp,iJ,pM⟩:=tZ bN (i:=0) (by omega);rw[c4.2]at qp;refine oC (TG hw (bX.tr cK) h5 pS (by omega)) ?_;intro q w7 hq;unfold jL;cases hX:j1 (Lib.join s.bI [10])with
   |error e=>
    rw[hX]at hq;obtain⟨av,jf,n1,xG,m1,gA,rfl,h7,aN⟩:=hq;refine au ?_;refine aj (bO _ rfl sH ?_);intro w8 Mr Er jP aS cB;refine aj (aH _ rfl nI cB (by simp[pz]) (oJ _ _ _ _ _ _) ?_);intro w9 n_ bg lX;have oT:ae [] w7 w9:=aS.aO bg (by omega);refine au ?_;exact df func16 (.inr (.inl ⟨rfl,rfl⟩)) ⟨rfl,h.vg cK (h7.aA oT) (aN.dt oT)⟩
   | ok y=>
    rw[hX]at hq;obtain⟨av,jf,n1,xG,m1,gA,F,rfl,hP,hF,aN⟩:=hq;obtain⟨g1,g2⟩:=zp hX;refine au ?_;refine aj (bO _ rfl sH ?_);intro w8 Mr Er jP aS cB;refine aj (aH [.slice av n1 xG,.slice jf m1 gA] rfl nI cB (by simp[pz]) (oJ _ _ _ _ _ _) ?_);intro w9 n_ bg lX;rw[bs (by rfl)]at lX;have oT:ae [] w7 w9:=aS.aO bg (by omega);have Cd:=aN.tr oT;have gY:=cK.tr Cd;have tH:=hR.keep gY fun _ _=>by simp
    have Ha:=Cd.af jg (by simp);have Lp:=tQ Cd iJ;obtain⟨ia,gN,od⟩:=tH.ip.form;subst od;subst qp;have hI:tY s (n.getD 0 0) y.1 y.2=(s,wO (gv y.1 y.2 s.inp (n.getD 0 0))):=rfl;simp only;rw[hI];have PL:∀{bM:World} {Q:Value→World→Prop},ae [] w' bM→(∀dB,iw w00.heap.size dB r fr (L++eN e_ [1]) s→ae [r] bM dB→Q (.tuple #[]) dB)→aC prog 27 [.pointer (some ⟨r,0,none⟩),.string (str (e_++[32]++Lib.itoa 1))] bM Q:=fun{bM Q} hk hQ=>(Ep e_ (h.aA hk) (by simp[e_];omega) (n:=1) (by unfold dm;decide)).mono fun q dB ⟨h1,h2,h3⟩=>by
     rw[h1];exact hQ dB h2 h3
    refine lB tH.bk ?_;refine au ?_;by_cases Ii:s.inp.length≤40
    rotate_left
    ·have e1:gv y.1 y.2 s.inp (n.getD 0 0)=⟨0,[],[],0,1⟩:=JN g1 fun h=>Ii h.1;rw[e1];refine ye ?_;refine oC (wB (v:=1) (by unfold dm;decide) (hw.lt.keep (bX.tr gY))) ?_;rintro q bM⟨rfl,bV⟩;refine ai _ (val_add (e_++[32]) (Lib.itoa 1) rfl rfl rfl (by have:=Lib.itoa_length_le 1 (by decide) (by decide);simp[e_];omega) bM) ?_;refine aj (aV (fst:=[]) (cap:=[]) rfl (PL (gY.tr bV) fun dB mg b8=>?_));refine au ?_;exact df func16 (.inr (.inl ⟨rfl,rfl⟩)) ⟨rfl,h.vg (gY.tr bV) mg b8⟩
    refine aL ?_;refine lB Ha ?_;refine ai _ (bJ (b:=g) (q:=0) (sz:=1) (len:=1) 0 rfl (by decide) w9) ?_;refine ai (.int .i64 (n.getD 0 0)) (aB rfl Lp) ?_;by_cases K3:n.getD 0 0<0
    ·have e1:gv y.1 y.2 s.inp (n.getD 0 0)=⟨0,[],[],0,1⟩:=JN g1 fun h=>by omega
     rw[e1];refine ye ?_;refine oC (wB (v:=1) (by unfold dm;decide) (hw.lt.keep (bX.tr gY))) ?_;rintro q bM⟨rfl,bV⟩;refine ai _ (val_add (e_++[32]) (Lib.itoa 1) rfl rfl rfl (by have:=Lib.itoa_length_le 1 (by decide) (by decide);simp[e_];omega) bM) ?_;refine aj (aV (fst:=[]) (cap:=[]) rfl (PL (gY.tr bV) fun dB mg b8=>?_));refine au ?_;exact df func16 (.inr (.inl ⟨rfl,rfl⟩)) ⟨rfl,h.vg (gY.tr bV) mg b8⟩
    refine aL ?_;refine lB Ha ?_;refine ai _ (bJ (b:=g) (q:=0) (sz:=1) (len:=1) 0 rfl (by decide) w9) ?_;refine ai (.int .i64 (n.getD 0 0)) (aB rfl Lp) ?_;by_cases GV:3000<n.getD 0 0
    ·have e1:gv y.1 y.2 s.inp (n.getD 0 0)=⟨0,[],[],0,1⟩:=JN g1 fun h=>by omega
     rw[e1];refine ye ?_;refine oC (wB (v:=1) (by unfold dm;decide) (hw.lt.keep (bX.tr gY))) ?_;rintro q bM⟨rfl,bV⟩;refine ai _ (val_add (e_++[32]) (Lib.itoa 1) rfl rfl rfl (by have:=Lib.itoa_length_le 1 (by decide) (by decide);simp[e_];omega) bM) ?_;refine aj (aV (fst:=[]) (cap:=[]) rfl (PL (gY.tr bV) fun dB mg b8=>?_));refine au ?_;exact df func16 (.inr (.inl ⟨rfl,rfl⟩)) ⟨rfl,h.vg (gY.tr bV) mg b8⟩
    refine aL ?_;refine au ?_;obtain⟨f,hf⟩:∃f:Nat,n.getD 0 0=(f:Int):=⟨(n.getD 0 0).toNat,by omega⟩;rw[hf]at Lp K3 GV⊢;have eI:gv y.1 y.2 s.inp (f:Int)=qR (nU (nN y.1 y.2 s.inp f)):=X6 g1 Ii (by omega) (by omega);obtain⟨bw,du⟩:=tP g1;obtain⟨ro,rc,r1,r2,_⟩:=OI g1 g2 cT.ir (f:Int);obtain⟨bo,bc⟩:=Oh (vs:=y.1) bw s.inp (f:Int);have hId:∀{bM:World},ae [] w9 bM→aC prog 32 [.agg #[.slice av n1 xG,.slice jf m1 gA],.slice ia s.inp.length gN,.int .i64 (f:Nat)] bM fun q w'=>(∃ov cv,q=.tuple #[.agg (cI (qR (nU (nN y.1 y.2 s.inp f))).code ov cv).toArray,.int .i64 (qR (nU (nN y.1 y.2 s.inp f))).used]∧eS w' ov (qR (nU (nN y.1 y.2 s.inp f))).out∧eS w' cv (qR (nU (nN y.1 y.2 s.inp f))).cells∧Nw bM ov∧Nw bM cv)∧ae [] bM w':=fun{bM} hk=>aeg f (hP.keep (oT.tr hk) hF.stays) (hF.keep (oT.tr hk)) (tH.ip.keep hk fun _ _=>by simp).nQ g1 bw (by omega) (by omega);have hfz:(qR (nU (nN y.1 y.2 s.inp f))).fault=0:=rfl;rw[eI]at ro rc r1 r2 bo bc⊢;generalize qR (nU (nN y.1 y.2 s.inp f))=T at*;have et:wO T=eN uW [T.used]++tb T.code T.out T.cells:=by unfold wO;rw[if_pos hfz]
    rw[et];refine bC (fun w'=>ae [] w9 w') [] bE ?_;have hS:ae [] w9 w9.drew:=(ae.refl _ _).drew;generalize w9.drew=bM at*;refine aI 0 (.agg #[.slice av n1 xG,.slice jf m1 gA]) rfl (fun w9 aq=>bF [.slice av n1 xG,.slice jf m1 gA] rfl ((ae.af aq lX (by simp)).range (by rfl))) hS ?_;refine tk 1 ?_;refine tk 2 ?_;refine tk 3 ?_;refine aI 4 (.slice ia s.inp.length gN) rfl (fun w9 aq=>aB rfl ((ae.af aq tH.bk (by simp)).cell rfl)) hS ?_;refine aI 5 (.slice (some ⟨g,0,none⟩) 1 cap) rfl (fun w9 aq=>aB rfl ((ae.af aq Ha (by simp)).cell rfl)) hS ?_;refine bD 6 _ rfl (fun w'=>bJ (b:=g) (q:=0) (sz:=1) (len:=1) 0 rfl (by decide) w') ?_;refine aI 7 (.int .i64 (f:Nat)) rfl (fun w9 aq=>aB rfl (tQ aq Lp)) hS ?_;refine yb 2 8191 (fun σ' w'=>∃vN oa oc ca cc,ak w' vN (cI 0 (.slice none 0 0) (.slice none 0 0)) 81∧w9.heap.size≤vN∧eS w' (.slice oa T.out.length oc) T.out∧eS w' (.slice ca T.cells.length cc) T.cells∧Nw w9 (.slice oa T.out.length oc)∧Nw w9 (.slice ca T.cells.length cc)∧NF (.slice oa T.out.length oc) [vN]∧NF (.slice ca T.cells.length cc) [vN]∧ae [] w9 w'∧
     Sub [(0,.pointer (some ⟨r,0,none⟩)),(14,.pointer (some ⟨vN,0,none⟩)),(153,.agg (cI T.code (.slice oa T.out.length oc) (.slice ca T.cells.length cc)).toArray),(154,.int .i64 T.used)] σ') ?_ ?_
    ·rintro σ' dB⟨vN,oa,oc,ca,cc,QE,QF,ho,lI,no,nc,fo,fc,b8,bH⟩;refine yg bH ?_;refine a8 13 rfl (aH (cI T.code (.slice oa T.out.length oc) (.slice ca T.cells.length cc)) rfl rO QE (by simp[cI]) (rN _ _ _ _ _ _ _) ?_);intro fj u6 di Lq;rw[bs (by rfl)]at Lq;have Zg:ae [] w9 fj:=b8.aO di QF;refine⟨fun _=>Zg,?_⟩;refine tk 14 ?_;refine bm ?_;have zO:=gY.tr Zg;have Ej:=ho.kG di fo;have anE:=lI.kG di fc;have z09:=gY.size;have oY:=h.lt r h.mem;have aac:NF (.slice oa T.out.length oc) [r]:=fun b q m k he h0 hm=>by have:=no b q m k he h0;rw[List.mem_singleton.1 hm]at this;omega
     have aad:NF (.slice ca T.cells.length cc) [r]:=fun b q m k he h0 hm=>by have:=nc b q m k he h0;rw[List.mem_singleton.1 hm]at this;omega
     have AF:vN∉[r]:=fun hm=>by have:=List.mem_singleton.1 hm;omega
     have hit:=Lib.itoa_length_le T.used r2.1 r2.2;refine oC (wB r2 (hw.lt.keep (bX.tr zO))) ?_;rintro q iW⟨rfl,bZ⟩;refine ai _ (val_add (uW++[32]) (Lib.itoa T.used) rfl rfl rfl (by simp[uW];omega) iW) ?_;refine oC (Ep uW (h.aA (zO.tr bZ)) (by simp[uW];omega) r2) ?_;rintro q nh⟨rfl,Ms,gP⟩;have anF:=gP.af (bZ.af Lq (by simp)) AF;have tl:=rL (w:=uW) (by decide) (oI r2);simp only[List.length_cons,List.length_nil]at tl;refine au ?_;refine ai (.agg (cI T.code (.slice oa T.out.length oc) (.slice ca T.cells.length cc)).toArray) (bF (cI T.code (.slice oa T.out.length oc) (.slice ca T.cells.length cc)) rfl (anF.range (by rfl))) ?_;refine oC (T6 hw.lt ((bX.tr (zO.tr bZ)).aO gP oY.1) Ms r1 ((Ej.aA bZ).kG gP aac) ((anE.aA bZ).kG gP aad) aac aad ro rc (by omega) (by omega) (by simp only[List.length_append];omega)) ?_;rintro q tI⟨rfl,ng,uh⟩;refine au ?_;rw[List.append_assoc]at ng;exact bK func16 rfl ⟨rfl,h.vg (zO.tr bZ) ng (gP.tr uh)⟩
    ·intro join;refine Br 8 12 rfl rfl (by decide+kernel) rfl rfl rfl rfl ?_ ?_
     ·refine aV (fst:=[]) (cap:=[]) rfl ((hId hS).mono ?_);rintro q dB⟨⟨ov,cv,rfl,ho,lI,no,nc⟩,b8⟩;obtain⟨oa,oc,rfl⟩:=ho.form;obtain⟨ca,cc,rfl⟩:=lI.form;refine⟨fun _=>hS.tr b8,?_⟩;refine tk 9 ?_;refine tk 10 ?_;refine tk 11 ?_;refine a8 12 rfl (bO _ rfl sG ?_);intro fj vN QF u6 di Lq;refine⟨fun _=>(hS.tr b8).tr di,?_⟩;have z12:=hS.size;have CJ:=b8.size;exact join _ fj ⟨vN,oa,oc,ca,cc,Lq,by omega,ho.aA di,lI.aA di,fun b q n k he h0=>Nat.le_trans z12 (no b q n k he h0),fun b q n k he h0=>Nat.le_trans z12 (nc b q n k he h0),ho.nf (fp:=[]) (fun _ _ _ _ _ _ h=>nomatch h) (fun k hk=>.inr (by rw[List.mem_singleton.1 hk];omega)),lI.nf (fp:=[]) (fun _ _ _ _ _ _ h=>nomatch h) (fun k hk=>.inr (by rw[List.mem_singleton.1 hk];omega)),(hS.tr b8).tr di,⟨rfl,rfl,rfl,rfl,trivial⟩⟩
     ·refine bO _ rfl sG ?_;intro dB vN QF u4 b8 QE;refine⟨fun _=>hS.tr b8,?_⟩;refine dC 8 (hId (hS.tr b8)) ?_;rintro q fj⟨⟨ov,cv,rfl,ho,lI,no,nc⟩,di⟩;obtain⟨oa,oc,rfl⟩:=ho.form;obtain⟨ca,cc,rfl⟩:=lI.form;refine⟨fun _=>(hS.tr b8).tr di,?_⟩;refine tk 9 ?_;refine tk 10 ?_;refine tk 11 ?_;have z12:=hS.size;have CJ:=b8.size;exact join _ fj ⟨vN,oa,oc,ca,cc,di.af QE (by simp),by omega,ho,lI,fun b q n k he h0=>Nat.le_trans (Nat.le_trans z12 CJ) (no b q n k he h0),fun b q n k he h0=>Nat.le_trans (Nat.le_trans z12 CJ) (nc b q n k he h0),fun b q n k he h0 hm=>by have:=no b q n k he h0;rw[List.mem_singleton.1 hm]at this;omega,fun b q n k he h0 hm=>by have:=nc b q n k he h0;rw[List.mem_singleton.1 hm]at this;omega,(hS.tr b8).tr di,⟨rfl,rfl,rfl,rfl,trivial⟩⟩
  rw[decide_eq_false c4];refine au ?_;have kZ:=jV.lf;cases mh:s.fZ with
  |none=>
   rw[mh]at kZ;have uA:bv=.pointer none:=kZ.1;subst uA;have eo:gf s w0 n=none:=by unfold gf;rw[if_neg c1,if_neg c2,if_neg c3,if_neg c4,mh];rfl
   rw[eo];refine lB jV.bk ?_;refine ai (.bool false) (FJ (by decide+kernel) rfl rfl w6) ?_;refine lB jV.bk ?_;refine ai (.bool false) (FJ (by decide+kernel) rfl rfl w6) ?_;refine lB jV.bk ?_;refine ai (.bool false) (FJ (by decide+kernel) rfl rfl w6) ?_;refine lB jV.bk ?_;refine ai (.bool false) (FJ (by decide+kernel) rfl rfl w6) ?_;refine au ?_;refine aj (aV (fst:=[]) (cap:=[]) rfl (PK cK fun w7 h7 aN=>?_));refine au ?_;exact bK func16 rfl ⟨rfl,h.vg cK h7 aN⟩
  | some fZ=>
   have lZ:s.fZ.isSome=true:=by rw[mh];rfl
   have Ij:¬s.fZ.isNone=true:=by rw[mh];simp
   rw[mh]at kZ;obtain⟨bb,cv,ivb,rr,m0,hbv,Se,Cu,uD,Ih,Mq,tu⟩:=kZ;subst hbv;refine lB jV.bk ?_;refine ai _ (FN (by decide+kernel) rfl rfl w6) ?_;refine au ?_;refine aj (aV (fst:=[]) (cap:=[.pointer (some ⟨x4,0,none⟩),.pointer (some ⟨x5,0,none⟩)]) rfl ((Bn wZ 1 th fk jg np).mono ?_));rintro q w7⟨rfl,mD⟩;rw[mD];clear mD w7;by_cases c5:w0=wZ∧n.length=1
   ·rw[decide_eq_true c5];have eo:gf s w0 n=some (gE s (1,n.getD 0 0,0,0)):=by unfold gf;rw[if_neg c1,if_neg c2,if_neg c3,if_neg c4,if_neg Ij,if_pos c5]
    rw[eo];obtain⟨g,cap,qp,iJ,pM⟩:=tZ bN (i:=0) (by omega);rw[c5.2]at qp;subst qp;refine lB jg ?_;refine ai _ (bJ (b:=g) (q:=0) (sz:=1) (len:=1) 0 rfl (by decide) w6) ?_;refine ai (.int .i64 (n.getD 0 0)) (aB rfl iJ) ?_;refine ai _ (bL _ rfl rfl (WC (n.getD 0 0)) w6) ?_;refine oC (stepR_ret (1,n.getD 0 0,0,0) hw (bX.tr cK) h5 cT (by omega) mr lZ) ?_;rintro q w7⟨rfl,h7⟩;refine au ?_;exact bK func16 rfl ⟨rfl,mf.late cK h7⟩
   rw[decide_eq_false c5];refine lB jV.bk ?_;refine ai _ (FN (by decide+kernel) rfl rfl w6) ?_;refine au ?_;refine aj (aV (fst:=[]) (cap:=[.pointer (some ⟨x4,0,none⟩),.pointer (some ⟨x5,0,none⟩)]) rfl ((Bn Kk 1 th fk jg np).mono ?_));rintro q w7⟨rfl,mD⟩;rw[mD];clear mD w7;by_cases c6:w0=Kk∧n.length=1
   ·rw[decide_eq_true c6];have eo:gf s w0 n=some (gE s (2,0,0,j8 (n.getD 0 0))):=by unfold gf;rw[if_neg c1,if_neg c2,if_neg c3,if_neg c4,if_neg Ij,if_neg c5,if_pos c6]
    rw[eo];obtain⟨g,cap,qp,iJ,pM⟩:=tZ bN (i:=0) (by omega);rw[c6.2]at qp;subst qp;refine lB jg ?_;refine ai _ (bJ (b:=g) (q:=0) (sz:=1) (len:=1) 0 rfl (by decide) w6) ?_;refine ai (.int .i64 (n.getD 0 0)) (aB rfl iJ) ?_;refine ai (.int .u64 ((j8 (n.getD 0 0):Nat):Int)) (JE .i64 .u64 _ _ rfl rfl J4 (KL _) w6) ?_;refine ai _ (bL _ rfl rfl (WD (j8 (n.getD 0 0))) w6) ?_;refine oC (stepR_ret (2,0,0,j8 (n.getD 0 0)) hw (bX.tr cK) h5 cT (by omega) mr lZ) ?_;rintro q w7⟨rfl,h7⟩;refine au ?_;exact bK func16 rfl ⟨rfl,mf.late cK h7⟩
   rw[decide_eq_false c6];refine lB jV.bk ?_;refine ai _ (FN (by decide+kernel) rfl rfl w6) ?_;refine au ?_;refine aj (aV (fst:=[]) (cap:=[.pointer (some ⟨x4,0,none⟩),.pointer (some ⟨x5,0,none⟩)]) rfl ((Bn wM 3 th fk jg np).mono ?_));rintro q w7⟨rfl,mD⟩;rw[mD];clear mD w7;by_cases c7:w0=wM∧n.length=3
   ·rw[decide_eq_true c7];have eo:gf s w0 n=some (gE s (3,n.getD 0 0,n.getD 1 0,j8 (n.getD 2 0))):=by unfold gf;rw[if_neg c1,if_neg c2,if_neg c3,if_neg c4,if_neg Ij,if_neg c5,if_neg c6,if_pos c7]
    rw[eo];obtain⟨g,cap,qp,iJ,_⟩:=tZ bN (i:=0) (by omega);obtain⟨_,_,G5,eO,_⟩:=tZ bN (i:=1) (by omega);obtain⟨_,_,aae,o0,_⟩:=tZ bN (i:=2) (by omega);rw[qp]at G5 aae;cases G5;cases aae;rw[c7.2]at qp;subst qp;refine au ?_;refine bC (fun w'=>ae [] w6 w') [12] bE ?_;have hS:ae [] w6 w6.drew:=(ae.refl _ _).drew;generalize w6.drew=w7 at*;refine tk 0 ?_;refine aI 1 (.slice (some ⟨g,0,none⟩) 3 cap) rfl (fun w9 aq=>aB rfl ((ae.af aq jg (by simp)).cell rfl)) hS ?_;refine bD 2 _ rfl (fun w'=>bJ (b:=g) (q:=0) (sz:=1) (len:=3) 0 rfl (by decide) w') ?_;refine aI 3 (.int .i64 (n.getD 0 0)) rfl (fun w9 aq=>aB rfl (tQ aq iJ)) hS ?_;refine aI 4 (.slice (some ⟨g,0,none⟩) 3 cap) rfl (fun w9 aq=>aB rfl ((ae.af aq jg (by simp)).cell rfl)) hS ?_;refine bD 5 _ rfl (fun w'=>bJ (b:=g) (q:=0) (sz:=1) (len:=3) 1 rfl (by decide) w') ?_;refine aI 6 (.int .i64 (n.getD 1 0)) rfl (fun w9 aq=>aB rfl (tQ aq eO)) hS ?_;refine aI 7 (.slice (some ⟨g,0,none⟩) 3 cap) rfl (fun w9 aq=>aB rfl ((ae.af aq jg (by simp)).cell rfl)) hS ?_;refine bD 8 _ rfl (fun w'=>bJ (b:=g) (q:=0) (sz:=1) (len:=3) 2 rfl (by decide) w') ?_;refine aI 9 (.int .i64 (n.getD 2 0)) rfl (fun w9 aq=>aB rfl (tQ aq o0)) hS ?_;refine bD 10 (.int .u64 ((j8 (n.getD 2 0):Nat):Int)) rfl (fun w'=>JE .i64 .u64 _ _ rfl rfl J4 (KL _) w') ?_;refine bD 11 _ rfl (fun w'=>bL _ rfl rfl (WE (n.getD 0 0) (n.getD 1 0) (j8 (n.getD 2 0))) w') ?_;refine dC 12 (stepR_ret (3,n.getD 0 0,n.getD 1 0,j8 (n.getD 2 0)) hw ((bX.tr cK).tr hS) (h5.aA hS) cT (by omega) mr lZ) ?_;rintro q w8⟨rfl,h8⟩;refine⟨fun h=>absurd (by simp) h,?_⟩;refine bm ?_;refine au ?_;exact bK func16 rfl ⟨rfl,mf.late (cK.tr hS) h8⟩
   rw[decide_eq_false c7];refine lB jV.bk ?_;refine ai _ (FN (by decide+kernel) rfl rfl w6) ?_;refine au ?_;refine aj (aV (fst:=[]) (cap:=[.pointer (some ⟨x4,0,none⟩),.pointer (some ⟨x5,0,none⟩)]) rfl ((Bn Lg 0 th fk jg np).mono ?_));rintro q w7⟨rfl,mD⟩;rw[mD];clear mD w7;by_cases c8:w0=Lg∧n.length=0
   ·rw[decide_eq_true c8];obtain⟨vs,body,inp,x⟩:=fZ;have eo:gf s w0 n=some (s,tb (lU x.m x.p) x.p.1 x.m.cells):=by unfold gf;rw[if_neg c1,if_neg c2,if_neg c3,if_neg c4,if_neg Ij,if_neg c5,if_neg c6,if_neg c7,if_pos c8];unfold ve;rw[mh]
    rw[eo];obtain⟨cX,o2,fF,Qr,g,hg,B8⟩:=cT.lf _ _ _ _ mh;obtain⟨bw,du⟩:=tP cX;have hz:jH vs body inp ⟨x,[],[],0⟩ s.cnt:=⟨⟨by simp,by simp⟩,g,hg,B8⟩;obtain⟨R7,R8,Ib⟩:=hz.aF cX bw;have aZ:=hz.stat cX bw;obtain⟨rc,ro⟩:=B8.rg o2 Qr;simp only at R7 R8 Ib aZ;refine lB jV.bk ?_;refine oC (N8 uD (by show x.m.state≤1000;omega)) ?_;rintro q w7⟨rfl,aN⟩;have AG:=uD.aA aN;have nfr:∀{v:Value} {l:List Int} {BB:Nat},bl w7 BB v l→(∀k∈aW v,k∈fb)→NF v [r]:=fun{v l BB} hv hs b q m c he _ hm=>by
     have:=hs b (iM.2 (by rw[he];rfl));rw[List.mem_singleton.1 hm]at this;exact(jV.dj r this).1 rfl
    refine oC (T6 (o:=x.p.1) (l:=x.m.cells) hw.lt ((bX.tr cK).tr aN) (h5.aA aN) (Oi aZ Ib) AG.ro.nQ AG.rc.nQ (nfr AG.ro fun k hk=>by rw[Ih];simp[dz,hk]) (nfr AG.rc fun k hk=>by rw[Ih];simp[dz,hk]) ro rc (by omega) (by omega) (by omega)) ?_;rintro q w8⟨rfl,h8,aS⟩;refine au ?_;exact bK func16 rfl ⟨rfl,h.vg (cK.tr aN) h8 aS⟩
   rw[decide_eq_false c8];have eo:gf s w0 n=none:=by unfold gf;rw[if_neg c1,if_neg c2,if_neg c3,if_neg c4,if_neg Ij,if_neg c5,if_neg c6,if_neg c7,if_neg c8]
   rw[eo];refine au ?_;refine aj (aV (fst:=[]) (cap:=[]) rfl (PK cK fun w7 h7 aN=>?_));refine au ?_;exact bK func16 rfl ⟨rfl,h.vg cK h7 aN⟩
end
theorem VC(l:List UInt8):rT l=l.any (·==10):=by
 have hb:∀l:List UInt8,-1≤Lib.indexByte l 10:=fun l=>by
  induction l with
  |nil=>decide
  |cons c r ih=>
   unfold Lib.indexByte;split
   ·decide
   ·split<;>omega
 induction l with
 |nil=>rfl
 | cons c r ih=>
  have h1:=hb r;unfold rT at ih⊢;unfold Lib.indexByte;rw[List.any_cons,←ih];by_cases hc:(c==10)=true
  ·rw[if_pos hc,hc];rfl
  ·rw[if_neg hc];have cG:(c==10)=false:=by simpa using hc
   rw[cG,Bool.false_or];by_cases h2:Lib.indexByte r 10=-1
   ·rw[h2];rfl
   ·rw[if_neg (by simpa using h2)];rw[decide_eq_true (by omega),decide_eq_true (by omega)]
section
variable{w00 w:World}{r:Nat}{fr:List Nat}{L:List UInt8}{s:Ds}
theorem acY{lv:Value}{ls:List (List UInt8)}(h:gz w lv ls)(hl:∀l∈ls,l.length≤2000000):aC prog 9 [lv] w fun q w'=>q=.agg (gG (i_ ls)).toArray∧ae [] w w':=by
 obtain⟨a,cap,rfl,_⟩:=h.form;refine aG 34 func9 ?_;refine au ?_;refine aj (bO _ rfl o9 ?_);intro w1 x2 gi bt ah aM;refine au ?_;by_cases vf:150<ls.length
 ·refine ye ?_;refine oC (xV 3 (-1) w1) ?_;rintro q w2⟨rfl,an⟩;refine aj (aH (gG (3,-1)) rfl gm (an.af aM (by simp)) (by simp[gG]) (gp _ _) ?_);intro w3 cw aw aQ;rw[bs (by rfl)]at aQ;refine au ?_;have e:i_ ls=(3,-1):=by unfold i_;rw[if_pos vf]
  rw[e];exact df func9 (.inr (.inr (.inl ⟨_,_,_,rfl,rfl,cV hT aQ rfl⟩))) ⟨rfl,(ah.tr an).aO aw (by omega)⟩
 refine aL ?_;refine au ?_;refine cP (fun t σ w'=>∃i:Nat,i≤ls.length∧t=ls.length-i∧σ=[(0,.slice a ls.length cap),(2,.pointer (some ⟨x2,0,none⟩)),(3,.int .i64 (i:Nat))]∧(∀k (hk:k<ls.length),k<i→rT ls[k]=false)∧w'=w1)
  ls.length _ ?_ ⟨0,Nat.zero_le _,rfl,rfl,fun k _ hk=>absurd hk (Nat.not_lt_zero k),rfl⟩ ?_
 ·exact⟨rfl,rfl,rfl,trivial⟩
 rintro t σ w2 ih⟨i,hi,rfl,rfl,kO,Ik⟩;subst Ik;refine au ?_;by_cases az:i<ls.length
 rotate_left
 ·refine aL ?_;refine au ?_;refine ai _ (bL _ rfl rfl Om w2) ?_;refine aj (aH (gG (0,0)) rfl gm aM (by simp[gG]) (gp _ _) ?_);intro w3 cw aw aQ;rw[bs (by rfl)]at aQ;refine au ?_;have e:i_ ls=(0,0):=by
   unfold i_;rw[if_neg vf];have:ls.findIdx? rT=none:=List.findIdx?_eq_none_iff.2 fun x hx=>by
    obtain⟨k,hk,rfl⟩:=List.getElem_of_mem hx;exact kO k hk (by omega)
   rw[this]
  rw[e];exact df func9 (.inr (.inr (.inl ⟨_,_,_,rfl,rfl,cV hT aQ rfl⟩))) ⟨rfl,ah.aO aw (by omega)⟩
 have CM:=hl ls[i] (List.getElem_mem az);obtain⟨b,q,iF,e1,_,fB⟩:=(h.aA ah).at (List.getElem?_eq_getElem az);injection e1 with e1 _ e3;subst e1 e3;refine ye ?_;refine au ?_;refine cP (fun t σ w'=>∃k:Nat,k≤ls[i].length∧t=ls[i].length-k∧σ=[(0,.slice (some ⟨b,q,none⟩) ls.length cap),(2,.pointer (some ⟨x2,0,none⟩)),(3,.int .i64 (i:Nat)),(4,.int .i64 (k:Nat))]∧(∀j (hj:j<ls[i].length),j<k→ls[i][j]≠10)∧w'=w2)
  ls[i].length _ ?_ ⟨0,Nat.zero_le _,rfl,rfl,fun k _ hk=>absurd hk (Nat.not_lt_zero k),rfl⟩ ?_
 ·exact⟨rfl,rfl,rfl,rfl,trivial⟩
 rintro t σ w3 nj⟨k,hk,rfl,rfl,ku,Ia⟩;subst Ia;refine au ?_;refine ai _ (bJ i rfl az w3) ?_;refine ai _ (aB rfl (by simpa using fB)) ?_;refine ai (.int .i64 (ls[i].length:Nat)) (p_ ls[i] (by decide+kernel) rfl rfl w3) ?_;by_cases Sf:k<ls[i].length
 rotate_left
 ·refine aL ?_;refine nM ((i+1:Nat):Int) ?_;refine au ?_;refine bj ?_ (ih (ls.length-(i+1)) [(0,.slice (some ⟨b,q,none⟩) ls.length cap),(2,.pointer (some ⟨x2,0,none⟩)),(3,.int .i64 ((i+1:Nat):Int))] w3 (by omega) ⟨i+1,az,rfl,rfl,fun j hj uq=>?_,rfl⟩)
  ·exact⟨rfl,rfl,rfl,trivial⟩
  ·rcases Nat.lt_or_ge j i with h1|h1
   ·exact kO j hj h1
   ·have:j=i:=by omega
    subst this;rw[VC,List.any_eq_false];intro c hc;obtain⟨m,hm,rfl⟩:=List.getElem_of_mem hc;simpa using ku m hm (by omega)
 refine ye ?_;refine au ?_;refine ai _ (bJ i rfl az w3) ?_;refine ai _ (aB rfl (by simpa using fB)) ?_;refine au ?_;refine ai _ (wo ls[i] k ls[i][k] (by decide+kernel) rfl rfl rfl rfl (List.getElem?_eq_getElem Sf) w3) ?_;by_cases hc:ls[i][k]=10
 ·have E5:(ls[i][k]).toNat=10:=by rw[hc];rfl
  refine ye ?_;refine oC (xV 14 (i:Nat) w3) ?_;rintro q4 w4⟨rfl,ax⟩;refine aj (aH (gG (14,(i:Nat))) rfl gm (ax.af aM (by simp)) (by simp[gG]) (gp _ _) ?_);intro w5 iV aE cr;rw[bs (by rfl)]at cr;refine au ?_;have hy:rT ls[i]=true:=by
   rw[VC,List.any_eq_true];exact⟨_,List.getElem_mem Sf,by rw[hc];rfl⟩
  have e:i_ ls=(14,((i:Nat):Int)):=by
   unfold i_;rw[if_neg vf];have:ls.findIdx? rT=some i:=List.findIdx?_eq_some_iff_getElem.2 ⟨az,hy,fun j hj=>by rw[kO j (by omega) hj];decide⟩;rw[this]
  rw[e];exact df func9 (.inr (.inr (.inl ⟨_,_,_,rfl,rfl,cV hT cr rfl⟩))) ⟨rfl,(ah.tr ax).aO aE (by omega)⟩
 ·have E5:(ls[i][k]).toNat≠10:=fun e=>hc (UInt8.toNat_inj.1 e);refine aL ?_;refine nM ((k+1:Nat):Int) ?_;refine au ?_;refine bj ?_ (nj (ls[i].length-(k+1)) [(0,.slice (some ⟨b,q,none⟩) ls.length cap),(2,.pointer (some ⟨x2,0,none⟩)),(3,.int .i64 (i:Nat)),(4,.int .i64 ((k+1:Nat):Int))] w3 (by omega) ⟨k+1,Sf,rfl,rfl,fun j hj HF=>?_,rfl⟩)
  ·exact⟨rfl,rfl,rfl,rfl,trivial⟩
  ·rcases Nat.lt_or_ge j k with h1|h1
   ·exact ku j hj h1
   ·have:j=k:=by omega
    subst this;exact hc
theorem aj1{lv:Value}{ls:List (List UInt8)}(hw:Lw w00)(bX:ae [] w00 w)(h:iw w00.heap.size w r fr L s)(lZ:gz w lv ls)(CL:NB lv fr)(yB:kA s ls)(vf:ls.length≤150):aC prog 10 [.pointer (some ⟨r,0,none⟩),lv] w fun q w'=>q=.string (str (gq s ls).2)∧mf w00 w w' r fr (gq s ls).2 (gq s ls).1:=by
 obtain⟨la,lc,rfl,_⟩:=lZ.form;obtain⟨tv,iv,bv,fb,fi,hR,y9⟩:=id h;refine aG 25 func10 ?_;refine au ?_;refine aj (aH [.string (str [])] rfl WM hR.bk (by simp) (lg rfl) ?_);intro w1 bt ah aM;have G2:ak w1 r [.string (str []),tv,iv,bv] TR:=aM;have h1:iw w00.heap.size w1 r fr [] s:=⟨_,_,_,_,_,hR.told ah G2,y9⟩;have k5:Tn fr fr w w1:=⟨ah.mono fun k hk=>.inl (by rw[List.mem_singleton.1 hk];exact h.mem),fun _ hk=>.inl hk⟩;refine au ?_;refine cP (fun t σ w'=>∃j:Nat,j≤ls.length∧t=ls.length-j∧σ=[(0,.pointer (some ⟨r,0,none⟩)),(1,.slice la ls.length lc),(5,.int .i64 (j:Nat))]∧mf w00 w w' r fr (gq s (ls.take j)).2 (gq s (ls.take j)).1)
  ls.length _ ?_ ⟨0,Nat.zero_le _,rfl,rfl,fr,h1,k5⟩ ?_
 ·exact⟨rfl,rfl,rfl,trivial⟩
 rintro t σ w2 ih⟨j,hj,rfl,rfl,fr2,h2,jS⟩;have Gw:ls=ls.take j++ls.drop j:=(List.take_append_drop j ls).symm;have yp:kA (gq s (ls.take j)).1 (ls.drop j):=kA.app (by rw[←Gw];exact yB);have KM:(gq s (ls.take j)).2.length≤7000000*150:=by
  have h1:=NX (kA.front (b:=ls.drop j) (by rw[←Gw];exact yB));have h2:(ls.take j).length≤150:=by simp;omega
  exact Nat.le_trans h1 (Nat.mul_le_mul_left _ h2)
 refine au ?_;by_cases az:j<ls.length
 rotate_left
 ·rw[List.take_of_length_le (by omega)]at h2;refine aL ?_;refine au ?_;obtain⟨tv2,iv2,bv2,fb2,fi2,pU,arM⟩:=id h2;refine lB pU.bk ?_;refine au ?_;exact ay func10 rfl ⟨rfl,fr2,h2,jS⟩
 refine ye ?_;refine au ?_;obtain⟨l,hl⟩:∃l,ls[j]?=some l:=⟨_,List.getElem?_eq_getElem az⟩;have Sa:l∈ls.drop j:=by
  rw[List.drop_eq_getElem_cons az];rw[List.getElem?_eq_getElem az]at hl;cases hl;exact List.mem_cons_self
 have Ll:=yp.bI;have Sb:=OK Sa;obtain⟨b,q,cap,e1,kZ,fB⟩:=(lZ.keep jS.1 CL).at hl;injection e1 with e1 _ e3;subst e1 e3;refine ai _ (bJ j rfl az w2) ?_;refine ai _ (aB rfl (by simpa using fB)) ?_;refine oC (agE l hw (h.k0 bX jS) h2 yp.ok (by omega) (by omega) (by have:=yp.inp;omega) (by have:=yp.cnt;omega) (by omega)) ?_;rintro q3 w3⟨rfl,h3⟩;refine nM ((j+1:Nat):Int) ?_;refine au ?_;refine bj ?_ (ih (ls.length-(j+1)) [(0,.pointer (some ⟨r,0,none⟩)),(1,.slice (some ⟨b,q,none⟩) ls.length lc),(5,.int .i64 ((j+1:Nat):Int))] w3 (by omega) ⟨j+1,az,rfl,rfl,?_⟩)
 ·exact⟨rfl,rfl,rfl,trivial⟩
 ·rw[List.take_add_one,hl,Option.toList_some,T3];exact mf.on jS h3
end
def pn(ls:List (List UInt8)):Nat:=(ls.map List.length).sum
theorem aee(a:List (List UInt8))(l:List UInt8):pn (a++[l])=pn a+l.length:=by simp[pn]
theorem agy{ls:List (List UInt8)}{m:Nat}(h:∀l∈ls,l.length≤m):pn ls≤ls.length*m:=by
 induction ls with
 |nil=>simp[pn]
 |cons l r ih=>
  have h1:=h l (by simp);have h2:=ih fun x hx=>h x (by simp[hx]);simp only[pn,List.map_cons,List.sum_cons,List.length_cons,Nat.add_mul,Nat.one_mul]at h2⊢;omega
theorem ah2(l:List UInt8):slowN l≤1:=by
 unfold slowN;split
 ·split<;>omega
 ·omega
theorem ah3(ls:List (List UInt8)):j4 ls≤ls.length:=by
 induction ls with
 |nil=>simp[j4]
 |cons l r ih=>
  have:=ah2 l;simp only[j4,List.map_cons,List.sum_cons,List.length_cons]at ih⊢;omega
def BM(ls:List (List UInt8)):Bool:=decide (9000<pn ls)||decide (25<j4 ls)
theorem WJ{v:Value}{ls:List (List UInt8)}{w:World}(h:gz w v ls)(hl:ls.length≤200)(hb:∀l∈ls,l.length≤2000000):aC prog 6 [v] w fun r w'=>r=.bool (BM ls)∧ae [] w w':=by
 obtain⟨a,cap,rfl,_⟩:=h.form;refine aG 54 func6 ?_;refine au ?_;refine cP (fun t σ w'=>∃i:Nat,i≤ls.length∧t=ls.length-i∧σ=[(0,.slice a ls.length cap),(3,.int .i64 (pn (ls.take i):Nat)),(4,.int .i64 (j4 (ls.take i):Nat)),(5,.int .i64 (i:Nat))]∧ae [] w w')
  ls.length _ ?_ ⟨0,Nat.zero_le _,rfl,rfl,ae.refl _ _⟩ ?_
 ·exact⟨rfl,rfl,rfl,rfl,trivial⟩
 rintro t σ w2 ih⟨i,hi,rfl,rfl,hk⟩;have hB:=agy (ls:=ls.take i) (m:=2000000) fun l hl=>hb l (List.mem_of_mem_take hl);have hR:=ah3 (ls.take i);have hti:(ls.take i).length=i:=by simp;omega
 rw[hti]at hB hR;refine au ?_;by_cases az:i<ls.length
 rotate_left
 ·have alQ:ls.take i=ls:=List.take_of_length_le (by omega);rw[alQ]at hB hR⊢;refine aL ?_;refine au ?_;unfold BM;by_cases h9:9000<pn ls
  ·rw[decide_eq_true h9];refine ye ?_;refine au ?_;exact ay func6 rfl ⟨rfl,hk⟩
  ·rw[decide_eq_false h9];refine aL ?_;refine au ?_;by_cases h25:25<j4 ls
   ·rw[decide_eq_true h25];refine ye ?_;refine au ?_;exact ay func6 rfl ⟨rfl,hk⟩
   ·rw[decide_eq_false h25];refine aL ?_;refine au ?_;exact ay func6 rfl ⟨rfl,hk⟩
 refine ye ?_;refine au ?_;obtain⟨l,hx⟩:∃l,ls[i]?=some l:=⟨_,List.getElem?_eq_getElem az⟩;have Ig:=hb l (List.mem_of_getElem? hx);have Mn:ls.take (i+1)=ls.take i++[l]:=by rw[List.take_add_one,hx,Option.toList_some]
 have eB:pn (ls.take (i+1))=pn (ls.take i)+l.length:=by rw[Mn,aee]
 have eR:j4 (ls.take (i+1))=j4 (ls.take i)+slowN l:=by rw[Mn,NY];simp[j4]
 obtain⟨b,q,iF,e1,_,fB⟩:=(h.aA hk).at hx;injection e1 with e1 _ e3;subst e1 e3;refine ai _ (bJ i rfl az w2) ?_;refine ai _ (aB rfl (by simpa using fB)) ?_;refine ai (.int .i64 (l.length:Nat)) (p_ l (by decide+kernel) rfl rfl w2) ?_;refine nM ((pn (ls.take (i+1)):Nat):Int) ?_;refine au ?_;refine ai _ (bJ i rfl az w2) ?_;refine ai _ (aB rfl (by simpa using fB)) ?_;refine oC (Vy l Ig w2) ?_;rintro wv w3⟨y4,aw⟩;have bn:=hk.tr aw;have aZ:=Kl y4;obtain⟨wa,wc,rfl,_⟩:=aZ.form;have back:∀k:Nat,k=j4 (ls.take (i+1))→_:=fun k aK=>ih (ls.length-(i+1)) [(0,.slice (some ⟨b,q,none⟩) ls.length cap),(3,.int .i64 (pn (ls.take (i+1)):Nat)),(4,.int .i64 (j4 (ls.take (i+1)):Nat)),(5,.int .i64 ((i+1:Nat):Int))] w3 (by omega) ⟨i+1,az,rfl,rfl,bn⟩;refine au ?_;cases qA:kh l with
 |nil=>
  have e0:slowN l=0:=by unfold slowN;rw[qA]
  refine aL ?_;refine nM ((i+1:Nat):Int) ?_;refine au ?_;rw[show j4 (ls.take i)=j4 (ls.take (i+1)) by omega];refine bj ?_ (back _ rfl);exact⟨rfl,rfl,rfl,rfl,trivial⟩
 | cons w0 r=>
  cases r with
  |nil=>
   have e0:slowN l=0:=by unfold slowN;rw[qA]
   refine aL ?_;refine nM ((i+1:Nat):Int) ?_;refine au ?_;rw[show j4 (ls.take i)=j4 (ls.take (i+1)) by omega];refine bj ?_ (back _ rfl);exact⟨rfl,rfl,rfl,rfl,trivial⟩
  | cons w1 r=>
   rw[qA]at aZ;obtain⟨b2,q2,G8,e2,_,o0⟩:=aZ.at (i:=0) (x:=w0) rfl;injection e2 with e2 _ e4;subst e2 e4;simp only[List.length_cons];refine ye ?_;refine au ?_;refine ai _ (bJ (len:=r.length+1+1) 0 rfl (by omega) w3) ?_;refine ai _ (aB rfl (by simpa using o0)) ?_;by_cases hr:w0=wZ
   ·refine ai (.bool true) (o_ (str w0) (str wZ) _ rfl rfl rfl (by rw[ji,ji];simpa using hr) w3) ?_;have e0:slowN l=1:=by unfold slowN;rw[qA];simp[hr]
    refine nM ((j4 (ls.take (i+1)):Nat):Int) ?_;refine nM ((i+1:Nat):Int) ?_;refine au ?_;refine bj ?_ (back _ rfl);exact⟨rfl,rfl,rfl,rfl,trivial⟩
   ·refine ai (.bool false) (o_ (str w0) (str wZ) _ rfl rfl rfl (by rw[ji,ji];simpa using hr) w3) ?_;refine au ?_;refine ai _ (bJ (len:=r.length+1+1) 0 rfl (by omega) w3) ?_;refine ai _ (aB rfl (by simpa using o0)) ?_;by_cases ht:w0=wM
    ·refine ai (.bool true) (o_ (str w0) (str wM) _ rfl rfl rfl (by rw[ji,ji];simpa using ht) w3) ?_;have e0:slowN l=1:=by unfold slowN;rw[qA];simp[ht]
     refine nM ((j4 (ls.take (i+1)):Nat):Int) ?_;refine nM ((i+1:Nat):Int) ?_;refine au ?_;refine bj ?_ (back _ rfl);exact⟨rfl,rfl,rfl,rfl,trivial⟩
    ·refine ai (.bool false) (o_ (str w0) (str wM) _ rfl rfl rfl (by rw[ji,ji];simpa using ht) w3) ?_;refine au ?_;refine ai _ (bJ (len:=r.length+1+1) 0 rfl (by omega) w3) ?_;refine ai _ (aB rfl (by simpa using o0)) ?_;by_cases hd:w0=zE
     ·refine ai (.bool true) (o_ (str w0) (str zE) _ rfl rfl rfl (by rw[ji,ji];simpa using hd) w3) ?_;have e0:slowN l=1:=by unfold slowN;rw[qA];simp[hd]
      refine nM ((j4 (ls.take (i+1)):Nat):Int) ?_;refine nM ((i+1:Nat):Int) ?_;refine au ?_;refine bj ?_ (back _ rfl);exact⟨rfl,rfl,rfl,rfl,trivial⟩
     ·refine ai (.bool false) (o_ (str w0) (str zE) _ rfl rfl rfl (by rw[ji,ji];simpa using hd) w3) ?_;have e0:slowN l=0:=by unfold slowN;rw[qA];simp[hr,ht,hd]
      refine nM ((i+1:Nat):Int) ?_;refine au ?_;rw[show j4 (ls.take i)=j4 (ls.take (i+1)) by omega];refine bj ?_ (back _ rfl);exact⟨rfl,rfl,rfl,rfl,trivial⟩
def dL:List (List UInt8):=[[124,108,101,116,32,97,32,49],[124,40,114,101,97,100,32,97,41,32,40,112,114,105,110,116,32,40,118,97,114,32,97,41,41,32,40,99,111,109,109,105,116,41],[105,110,112,117,116,32,55],[110,111,119],[98,111,111,116],[114,117,110,32,50],[110,111,119],[99,114,97,115,104,32,48],[114,117,110,32,57],[110,111,119],[105,100,101,97,108,32,57],[120]]
def dT:List UInt8:=[119,104,97,116,10,111,107,10,100,105,100,32,50,10,99,111,100,101,32,49,51,10,111,117,116,10,99,101,108,108,115,32,55,10,100,105,100,32,48,10,100,105,100,32,53,10,99,111,100,101,32,48,10,111,117,116,32,55,10,99,101,108,108,115,32,55,10,116,111,111,107,32,53,10,99,111,100,101,32,48,10,111,117,116,32,55,10,99,101,108,108,115,32,55,10,119,104,97,116,10]
theorem XW:(xE xy dL).2=dT∧i_ dL=(0,0):=by
 constructor
 ·kernel_rfl
 ·kernel_rfl
theorem alR:kA xy dL:=⟨PH,by decide+kernel,by decide,by decide+kernel⟩
theorem ah4:kE prog 22 12 [(0,.string (str [124,108,101,116,32,97,32,49])),(1,.string (str [124,40,114,101,97,100,32,97,41,32,40,112,114,105,110,116,32,40,118,97,114,32,97,41,41,32,40,99,111,109,109,105,116,41])),(2,.string (str [105,110,112,117,116,32,55])),(3,.string (str [110,111,119])),(4,.string (str [98,111,111,116])),(5,.string (str [114,117,110,32,50])),(6,.string (str [110,111,119])),(7,.string (str [99,114,97,115,104,32,48])),(8,.string (str [114,117,110,32,57])),(9,.string (str [110,111,119])),(10,.string (str [105,100,101,97,108,32,57])),(11,.string (str [120]))]=some (TS,(strs dL).toArray):=by kernel_rfl
theorem ac_{w:World}(hw:Lw w):aC prog 5 [] w fun r w'=>r=.bool true∧ae [] w w':=by
 refine aG 16 func5 ?_;refine oC (T2 (ae.refl [] w)) ?_;rintro r w1⟨d,rfl,hd,y8,ah⟩;refine aj (eE _ _ rfl rfl ah4 ?_);intro w2 g hg cE an aX;have aZ:gz w2 (.slice (some ⟨g,0,none⟩) 12 12) dL:=⟨_,_,rfl,Nat.le_refl _,fun _=>⟨g,0,rfl,aX.lt,aX.range (by rfl)⟩⟩;have lk:=hd.aA an;refine aj (aV (fst:=[]) (cap:=[]) rfl ((UG hw (ah.tr an) lk aZ (fun b q n c he _ hm=>by
  injection he with he;injection he with he;injection he with he _;have:=List.mem_singleton.1 hm;have:=(hd.lt d (by simp)).2;omega) alR).mono ?_))
 rintro r w3⟨rfl,fd3,AA,fY⟩;rw[XW.1,XW.2];have bn:ae [] w w3:=(ah.tr an).trans fY.1 fun k hk=>.inr (by rw[List.mem_singleton.1 hk];exact y8);refine au ?_;refine aj (bO _ rfl o9 ?_);intro w4 x2 gi cz ax a_;refine au ?_;refine aj (aH (gG (0,0)) rfl gm a_ (by simp[gG]) (gp _ _) ?_);intro w5 iV aE cr;rw[bs (by rfl)]at cr;refine lB cr ?_;refine ye ?_;refine au ?_;refine ai (.bool true) (o_ (str dT) (str dT) _ rfl rfl rfl (by simp) w5) ?_;refine au ?_;exact ay func5 rfl ⟨rfl,(bn.tr ax).aO aE (by have:=bn.size;omega)⟩
theorem YR{d:Ds}{ls:List (List UInt8)}(h:(i_ ls).1=0):xE d ls=gq d ls:=by unfold xE;rw[if_pos h]
theorem X0{d:Ds}{ls:List (List UInt8)}(h:(i_ ls).1≠0):xE d ls=(d,[]):=by unfold xE;rw[if_neg h]
theorem Pc{ls:List (List UInt8)}(hl:ls.length≤200)(hs:BM ls=false):kA xy ls:=by
 unfold BM at hs;simp only[Bool.or_eq_false_iff,decide_eq_false_iff_not,Nat.not_lt]at hs;have:fD ls=pn ls+ls.length:=by
  clear hs hl;induction ls with
  |nil=>rfl
  |cons x r ih=>simp only[fD,pn,List.map_cons,List.sum_cons,List.length_cons]at ih⊢;omega
 refine⟨PH,?_,by decide,?_⟩
 ·show 0+_≤_;omega
 ·show 0+_≤_;omega
theorem aia:prog.built TR []=some [Value.string (str []),.slice none 0 0,.slice none 0 0,.pointer none].toArray:=by kernel_rfl
theorem aib(a b:Option Addr)(n c m e:Nat):kE prog 32 2 [(0,.slice a n c),(1,.slice b m e)]=some (22,[Value.slice a n c,.slice b m e].toArray):=by kernel_rfl
theorem VD(ls:List (List UInt8)):fD ls=pn ls+ls.length:=by
 induction ls with
 |nil=>rfl
 |cons x r ih=>simp only[fD,pn,List.map_cons,List.sum_cons,List.length_cons]at ih⊢;omega
theorem ads{w:World}{av bv:Value}{la lb:List (List UInt8)}(hw:Lw w)(ha:gz w av la)(ma:∀l∈la,l.length≤2000000)(hb:gz w bv lb)(mb:∀l∈lb,l.length≤2000000):aC prog 3 [av,bv] w fun r w'=>r=.bool true∧ae [] w w':=by
 obtain⟨aa,ac,rfl,_⟩:=ha.form;obtain⟨ba,bc,rfl,_⟩:=hb.form;refine aG 79 func3 ?_;refine oC (ac_ hw) ?_;rintro q w1⟨rfl,ah⟩;refine au ?_;by_cases h2a:200<la.length
 ·refine ye ?_;refine au ?_;exact ay func3 rfl ⟨rfl,ah⟩
 refine aL ?_;refine au ?_;by_cases Mu:200<lb.length
 ·refine ye ?_;refine au ?_;exact ay func3 rfl ⟨rfl,ah⟩
 refine aL ?_;refine oC (WJ (ha.aA ah) (by omega) ma) ?_;rintro q w2⟨rfl,an⟩;have br:=ah.tr an;cases xu:BM la with
 |true=>
  refine au ?_;exact ay func3 rfl ⟨rfl,br⟩
 | false=>
  refine oC (WJ (hb.aA br) (by omega) mb) ?_;rintro q w3⟨rfl,aw⟩;have bn:=br.tr aw;cases xH:BM lb with
  |true=>
   refine au ?_;exact ay func3 rfl ⟨rfl,bn⟩
  | false=>
   have YS:kA xy (la++lb):=by
    have h1:=(Pc (by omega) xu);have h2:=(Pc (by omega) xH);unfold BM at xu xH;simp only[Bool.or_eq_false_iff,decide_eq_false_iff_not,Nat.not_lt]at xu xH;have ea:=VD la;have eb:=VD lb;refine⟨PH,?_,by decide,?_⟩
    ·rw[JM];show 0+_≤_;omega
    ·rw[NY];show 0+_≤_;omega
   have alU:=Pc (by omega) xH;refine oC (T2 (w00:=w) bn) ?_;rintro q w4⟨d,rfl,qB,y8,ax⟩;refine au ?_;refine ai _ (bL _ rfl rfl aia w4) ?_;refine aj (bY [.string (str []),.slice none 0 0,.slice none 0 0,.pointer none] rfl ?_);intro w5 r hr iV aE cr;have cK:=(bn.tr ax).tr aE;have pT:=qB.aA aE;have jW:iw w.heap.size w5 r [r] [] xy:=⟨_,_,_,[],[],⟨cr,by have:=(bn.tr ax).size;omega,Own.nil _ _ _ _,bl.nil _ _,⟨rfl,rfl,rfl⟩,fun k hk=>(by cases hk),fun k hk=>(by cases hk)⟩,rfl⟩;refine au ?_;refine aj (eE _ _ rfl rfl (aib aa ba la.length ac lb.length bc) ?_);intro w6 xl pV iI aD dM;have xi:=(pT.lt d (by simp)).2;have arN:=(qB.lt d (by simp)).2;have oY:=cr.lt;refine au ?_;refine cP (fun t σ w'=>∃(i:Nat) (ss:Ds) (fd fr:List Nat) (L:List UInt8),i≤2∧t=2-i∧σ=[(5,.pointer (some ⟨d,0,none⟩)),(6,.pointer (some ⟨r,0,none⟩)),(7,.slice (some ⟨xl,0,none⟩) 2 2),(8,.int .i64 (i:Nat))]∧qx w.heap.size w' d fd ss∧iw w.heap.size w' r fr L ss∧(∀k∈fd,k∉fr)∧ak w' xl [.slice aa la.length ac,.slice ba lb.length bc] 22∧xl∉fd∧xl∉fr∧ae [] w w'∧(i=0→ss=xy)∧(i=1→kA ss lb))
    2 _ ?_ ⟨0,xy,[d],[r],[],by omega,rfl,rfl,pT.aA aD,jW.aA aD,fun k hk hm=>?_,dM,fun hm=>?_,fun hm=>?_,cK.tr aD,fun _=>rfl,fun h=>absurd h (by omega)⟩ ?_
   ·exact⟨rfl,rfl,rfl,rfl,trivial⟩
   ·have h1:=List.mem_singleton.1 hk;have h2:=List.mem_singleton.1 hm;omega
   ·have:=List.mem_singleton.1 hm;omega
   ·have:=List.mem_singleton.1 hm;omega
   rintro t σ w7 ih⟨i,ss,fd,fr,L,hi,rfl,rfl,y7,xI,Cr,CO,H3,AF,aN,anG,anH⟩;refine au ?_;by_cases az:i<2
   rotate_left
   ·refine aL ?_;refine au ?_;exact ay func3 rfl ⟨rfl,aN⟩
   obtain⟨va,n,vc,li,mJ,aZ,mK,yB,CP⟩:∃(va:Option Addr) (n vc:Nat) (li:List (List UInt8)),[Value.slice aa la.length ac,.slice ba lb.length bc][i]?=some (.slice va n vc)∧gz w (.slice va n vc) li∧(∀l∈li,l.length≤2000000)∧kA ss li∧(i+1=1→kA (xE ss li).1 lb):=by
    rcases(show i=0∨i=1 by omega)with rfl|rfl
    ·have e:=anG rfl;subst e;refine⟨_,_,_,la,rfl,ha,ma,YS.front,fun _=>?_⟩;by_cases hf:(i_ la).1=0
     ·rw[YR hf];exact YS.app
     ·rw[X0 hf];exact alU
    ·exact⟨_,_,_,lb,rfl,hb,mb,anH rfl,fun h=>absurd h (by omega)⟩
   have ek:w7.cell? ⟨xl,i,none⟩=some (.slice va n vc):=CO.cell mJ;have arg:∀{w':World} {f:List Nat},ae [] w w'→(∀k∈f,w.heap.size≤k)→gz w' (.slice va n vc) li∧NB (.slice va n vc) f:=fun hk hf=>⟨aZ.aA hk,aZ.nb (fp:=[]) (fun _ _ _ _ _ _ h=>nomatch h) fun k hk=>.inr (hf k hk)⟩;refine ye ?_;refine au ?_;refine ai _ (bJ (b:=xl) (q:=0) (sz:=1) (len:=2) i rfl az w7) ?_;refine ai _ (aB rfl (by simpa using ek)) ?_;obtain⟨hA7,nA7⟩:=arg aN fun k hk=>(y7.lt k hk).1;refine oC (UG hw aN y7 hA7 nA7 yB) ?_;rintro q w8⟨rfl,Il,Ie,vO⟩;have aS:ae [] w w8:=aN.trans vO.1 fun k hk=>.inr (y7.lt k hk).1;have Im:=xI.keep vO.1 fun k hk hm=>Cr k hm hk;have anI:=vO.1.af CO H3;have aaf:xl∉Il:=fun hm=>(vO.2 xl hm).elim H3 fun h=>by have:=CO.lt;omega
   have QG:∀k∈Il,k∉fr:=fun k hk hm=>(vO.2 k hk).elim (fun h=>Cr k h hm) fun h=>by have:=(xI.lt k hm).2;omega
   refine au ?_;refine aj (bO _ rfl o9 ?_);intro w9 Mr Er n_ bg lX;refine au ?_;refine aj (aH (gG (i_ li)) rfl gm lX (by simp[gG]) (gp _ _) ?_);intro bM zY bV ld;rw[bs (by rfl)]at ld;have PM:ae [] w8 bM:=bg.aO bV (by omega);have qT:=aS.tr PM;have Zh:=PM.af anI (by simp);have alV:bM.cell? ⟨xl,i,none⟩=some (.slice va n vc):=Zh.cell mJ;refine au ?_;refine ai _ (bJ (b:=xl) (q:=0) (sz:=1) (len:=2) i rfl az bM) ?_;refine ai _ (aB rfl (by simpa using alV)) ?_;refine oC (acY (aZ.aA qT) mK) ?_;rintro q dB⟨rfl,b8⟩;refine aj (bO _ rfl o9 ?_);intro fj x11 arO u6 di u0;refine aj (aH (gG (i_ li)) rfl gm u0 (by simp[gG]) (gp _ _) ?_);intro iW Ca bZ tg;rw[bs (by rfl)]at tg;have ak9:ae [] dB iW:=di.aO bZ (by omega);have Pd:=b8.tr ak9;have PN:=PM.tr Pd;have yr:=aS.tr PN;have Eu:=Pd.af ld (by simp);have KN:=Pd.af Zh (by simp);have yC:=Ie.aA PN;have Ev:=Im.aA PN;have alW:iW.cell? ⟨xl,i,none⟩=some (.slice va n vc):=KN.cell mJ;refine au ?_;refine ai (.agg (gG (i_ li)).toArray) (bF (gG (i_ li)) rfl (Eu.range (by rfl))) ?_;refine ai (.agg (gG (i_ li)).toArray) (bF (gG (i_ li)) rfl (tg.range (by rfl))) ?_;refine ai (.bool false) (afQ _ _ _ _ false (by decide+kernel) rfl rfl rfl (by simp) iW) ?_;refine lB tg ?_;by_cases hF:(i_ li).1=0
   rotate_left
   ·refine ye ?_;refine au ?_;rw[X0 hF]at yC CP⊢;refine ai _ (tW [] [] false rfl rfl rfl rfl iW) ?_;refine lB tg ?_;refine aL ?_;refine nM ((i+1:Nat):Int) ?_;refine au ?_;refine bj ?_ (ih (2-(i+1)) [(5,.pointer (some ⟨d,0,none⟩)),(6,.pointer (some ⟨r,0,none⟩)),(7,.slice (some ⟨xl,0,none⟩) 2 2),(8,.int .i64 ((i+1:Nat):Int))] iW (by omega) ⟨i+1,ss,Il,fr,L,by omega,rfl,rfl,yC,Ev,QG,KN,aaf,AF,yr,fun h=>absurd h (by omega),CP⟩);exact⟨rfl,rfl,rfl,rfl,trivial⟩
   have vf:li.length≤150:=by
    unfold i_ at hF;split at hF
    ·cases hF
    ·omega
   rw[YR hF]at yC CP⊢;refine aL ?_;refine lB tg ?_;refine ye ?_;refine au ?_;refine ai _ (bJ (b:=xl) (q:=0) (sz:=1) (len:=2) i rfl az iW) ?_;refine ai _ (aB rfl (by simpa using alW)) ?_;obtain⟨anJ,anK⟩:=arg yr fun k hk=>(Ev.lt k hk).1;refine oC (aj1 hw yr Ev anJ anK yB vf) ?_;rintro q nh⟨rfl,QH,anL,Hb⟩;refine ai (.bool false) (tW _ _ false rfl rfl rfl (by simp) nh) ?_;have alX:ae [] w nh:=yr.trans Hb.1 fun k hk=>.inr (Ev.lt k hk).1;have anM:=yC.keep Hb.1 fun k hk hm=>QG k hk hm;have alY:=Hb.1.af KN AF;have alZ:xl∉QH:=fun hm=>(Hb.2 xl hm).elim AF fun h=>by have:=KN.lt;omega
   have al0:∀k∈Il,k∉QH:=fun k hk hm=>(Hb.2 k hm).elim (fun h=>QG k hk h) fun h=>by have:=(yC.lt k hk).2;omega
   refine nM ((i+1:Nat):Int) ?_;refine au ?_;refine bj ?_ (ih (2-(i+1)) [(5,.pointer (some ⟨d,0,none⟩)),(6,.pointer (some ⟨r,0,none⟩)),(7,.slice (some ⟨xl,0,none⟩) 2 2),(8,.int .i64 ((i+1:Nat):Int))] nh (by omega) ⟨i+1,_,Il,QH,_,by omega,rfl,rfl,anM,anL,al0,alY,aaf,alZ,alX,fun h=>absurd h (by omega),CP⟩);exact⟨rfl,rfl,rfl,rfl,trivial⟩
theorem NU{H:Type}{d:DataW H}{l:List (DataW H)}(h:d∈l):Rows.uptoBulk d≤Rows.uptoBulkAll l:=by
 induction l with
 |nil=>cases h
 |cons x r ih=>
  simp only[Rows.uptoBulkAll];rcases List.mem_cons.1 h with rfl|h
  ·omega
  ·have:=ih h;omega
theorem XM{H:Type}{enc:TypeId×Value→H}{w:World}{v:Value}{d:DataW H}{ps:List MemPlace}(h:DataW.Trod enc prog w 0 (fun _=>true) true 22 v d ps)(hv:v.cells=#[v]):∃l,gz w v l∧∀x∈l,x.length≤Rows.uptoBulk d:=by
 obtain⟨fuel,hf⟩:=h;rw[hv]at hf;rcases Go.Deep.open_slice1 underlying22 (by decide+kernel) hf with⟨mA,_⟩|⟨a,len,cap,m,n,V,D,Pl,mA,_,hl,_,hm,hx,kJ⟩
 ·simp at mA;exact⟨[],⟨none,0,mA,Nat.le_refl _,fun h=>absurd h (by simp)⟩,fun x hx=>by cases hx⟩
 ·simp only[if_true]at hm;simp at mA;simp only[Prod.mk.injEq]at hx;have each:∀i,i<len→∃s:List UInt8,w.cell? (a.add i)=some (.string (str s))∧D i=.lit (.string s):=fun i hi=>by
   obtain⟨h1,h2⟩:=kJ i (by omega);obtain⟨s,e1,e2,_⟩:=DataW.trod_string underlying9 h2;simp only[List.cons.injEq,and_true]at e1;simp only[Prod.mk.injEq]at e2;exact⟨s.data.toList,by rw[h1,e1,F2],e2.1⟩
  obtain⟨L,hL,hp⟩:=T8 len each;refine⟨L,⟨some a,cap,by rw[mA,hL],by omega,fun h0=>?_⟩,fun x CH=>?_⟩
  ·have c0:=(hp 0 L[0] (List.getElem?_eq_getElem h0)).1;have jx:a.spot=none:=by
    have:=World.cell?_spot c0;simpa[Addr.add]using this
   obtain⟨b,q,sp⟩:=a;simp only at jx;subst jx;refine⟨b,q,rfl,?_,fun j u hu=>?_⟩
   ·have:=World.block_lt_of_cell? w _ c0;simpa[Addr.add]using this
   ·simp only[strs,List.getElem?_map]at hu;obtain⟨y,hy,rfl⟩:=Option.map_eq_some_iff.1 hu;have:=(hp j y hy).1
    rwa [Addr.add_mid]at this
  ·obtain⟨i,hi⟩:=List.getElem?_of_mem CH;have fF:=(List.getElem?_eq_some_iff.1 hi).1;have hD:=(hp i x hi).2;have lE:D i∈(List.range len).map D:=List.mem_map.2 ⟨i,List.mem_range.2 (by omega),rfl⟩;have:=NU lE;rw[hD]at this;rw[hx.1];simp only[Rows.uptoBulk]at this⊢;omega
end E
end Go.Proofs.YtoigoojdbpbhoagGreatDoor
