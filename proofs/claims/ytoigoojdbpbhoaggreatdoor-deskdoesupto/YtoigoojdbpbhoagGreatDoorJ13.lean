/- Texts RpB RpC RpE RpF RpG RfB RfC RfE. -/
import Derived.Test.YtoigoojdbpbhoagGreatDoorJ12
import Derived.Test.YtoigoojdbpbhoagGreatDoorJ03
import Derived.Test.YtoigoojdbpbhoagGreatDoorJ05
import Derived.Test.YtoigoojdbpbhoagGreatDoorJ02
namespace Go.Proofs.YtoigoojdbpbhoagGreatDoor
set_option maxRecDepth 20000
set_option maxHeartbeats 4000000
namespace E
open Go.Proofs.Tryz
def alm(ts:List Tok)(fin:Nat)(x:Except bp Nat)(code:Int):Except bp Nat:=match x with
 |.ok i=>.error (dG ts fin code i)
 |.error e=>.error e
theorem uP{w:World}{b fin:Nat}{lv vv:Value}{ts:List Tok}{vs:List aJ}{x:Except bp Nat}(hx:Cx w lv vv ts vs)(h:Rs w b lv vv fin x)(code:Int)(arp:code=4∨code=5∨code=10):aC prog 116 [.pointer (some ⟨b,0,none⟩),.int .i64 code] w fun _ w'=>Rs w' b lv vv fin (alm ts fin x code)∧ae [b] w w':=by
 refine aG 52 func116 ?_;refine oC (ml h) ?_;rintro r w1⟨rfl,rfl⟩;obtain⟨av,cv,rfl⟩:=hx.form;cases x with
 |error e=>
  unfold eV;refine au ?_;exact df func116 (.inr (.inl ⟨rfl,rfl⟩)) ⟨h,ae.refl _ _⟩
 | ok i=>
  have hb:ak w1 b (cO (.slice av ts.length cv) vv fin i (0,0)) 135:=h;have bz:ae [] w1 w1.drew:=(ae.refl _ _).drew;unfold eV;refine au ?_;by_cases az:i<ts.length
  ·obtain⟨g,cap,e1,hr⟩:=hx.at (List.getElem?_eq_getElem az);injection e1 with e1 _ gA;subst e1 gA;obtain⟨t,ht⟩:∃t,t=ts[i]:=⟨_,rfl⟩;rw[←ht]at hr;have hw:dG ts fin code i=(code,((t.pos:Nat):Int)):=by
    unfold dG;rw[List.getElem?_eq_getElem az,←ht]
   refine bC (fun w'=>True∧ak w' b (cO (.slice (some ⟨g,0,none⟩) ts.length cv) vv fin i (0,0)) 135) [] bE ?_;have hS:True∧ak w1.drew b (cO (.slice (some ⟨g,0,none⟩) ts.length cv) vv fin i (0,0)) 135:=⟨trivial,bz.af hb (by simp)⟩;refine dp 0 ?_;refine dp 1 ?_;refine dp 2 ?_;refine dp 3 ?_;refine dp 4 ?_;refine dp 5 ?_;refine dp 6 ?_;refine dp 7 ?_;refine dp 8 ?_;refine dp 9 ?_;refine bm ?_;refine au ?_;refine bC (fun w'=>w'.rangeAt g (0+i*4) (dr t)∧ak w' b (cO (.slice (some ⟨g,0,none⟩) ts.length cv) vv fin i (0,0)) 135) [16] bE ?_;have rY:ae [] w1 w1.drew.drew:=bz.drew;have hS:w1.drew.drew.rangeAt g (0+i*4) (dr t)∧ak w1.drew.drew b (cO (.slice (some ⟨g,0,none⟩) ts.length cv) vv fin i (0,0)) 135:=⟨hr,rY.af hb (by simp)⟩;refine dp 0 ?_;refine dp 1 ?_;refine dp 2 ?_;refine dp 3 ?_;refine dp 4 ?_;refine dp 5 ?_;refine dp 6 ?_;refine dp 7 ?_;refine dp 8 ?_;refine dp 9 ?_;refine bD 10 _ rfl (fun w=>bJ i rfl az w) ?_;refine tk 11 ?_;refine aI 12 _ rfl (fun w9 aq=>aB rfl (aq.1 0 _ rfl)) hS ?_;refine dC 13 (xV code ((t.pos:Nat):Int) _) ?_;rintro r w3⟨rfl,aw⟩;have aQ:=aw.af hS.2 (by simp);have aah:g<w1.drew.drew.heap.size:=by
    have:=hS.1 0 _ rfl;rcases Nat.lt_or_ge g w1.drew.drew.heap.size with h'|h'
    ·exact h'
    ·simp[World.cell?,Array.getElem?_eq_none h']at this
   refine⟨fun _=>⟨ft hS.1 aw aah (by simp),aQ⟩,?_⟩;refine tk 14 ?_;refine tk 15 ?_;refine a8 16 rfl (aH [.int .i64 code,.int .i64 ((t.pos:Nat):Int)] rfl gm aQ (by simp[cO]) (gp _ _) ?_);intro w4 cz ax a_;refine⟨fun h=>absurd (by simp) h,?_⟩;refine bm ?_;refine bK func116 rfl ⟨?_,(ae.bG (rY.tr aw)).tr ax⟩;show(dG ts fin code i).1≠0∧_;rw[hw];exact⟨by show code≠0;omega,i,a_⟩
  ·refine bC (fun w'=>True∧ak w' b (cO (.slice av ts.length cv) vv fin i (0,0)) 135) [] bE ?_;have hS:True∧ak w1.drew b (cO (.slice av ts.length cv) vv fin i (0,0)) 135:=⟨trivial,bz.af hb (by simp)⟩;have cZ:ts[i]?=none:=List.getElem?_eq_none (by omega);refine dp 0 ?_;refine dp 1 ?_;refine dp 2 ?_;refine dp 3 ?_;refine dp 4 ?_;refine dp 5 ?_;refine dp 6 ?_;refine dp 7 ?_;refine dp 8 ?_;refine dp 9 ?_;refine bm ?_;refine au ?_;by_cases h5:code=5
   ·refine ye ?_;refine au ?_;refine ai _ (aB rfl (ak.cell hS.2 (by rfl))) ?_;refine oC (xV 6 ((fin:Nat):Int) _) ?_;rintro r w3⟨rfl,aw⟩;have aQ:=aw.af hS.2 (by simp);refine au ?_;refine aj (aH [.int .i64 6,.int .i64 ((fin:Nat):Int)] rfl gm aQ (by simp[cO]) (gp _ _) ?_);intro w4 cz ax a_;refine au ?_;refine bK func116 rfl ⟨?_,(ae.bG (bz.tr aw)).tr ax⟩;have hw:dG ts fin code i=(6,((fin:Nat):Int)):=by
     unfold dG;rw[cZ,h5];rfl
    show(dG ts fin code i).1≠0∧_;rw[hw];exact⟨by show(6:Int)≠0;decide,i,a_⟩
   ·refine aL ?_;refine au ?_;refine ai _ (aB rfl (ak.cell hS.2 (by rfl))) ?_;refine oC (xV code ((fin:Nat):Int) _) ?_;rintro r w3⟨rfl,aw⟩;have aQ:=aw.af hS.2 (by simp);refine au ?_;refine aj (aH [.int .i64 code,.int .i64 ((fin:Nat):Int)] rfl gm aQ (by simp[cO]) (gp _ _) ?_);intro w4 cz ax a_;refine au ?_;refine bK func116 rfl ⟨?_,(ae.bG (bz.tr aw)).tr ax⟩;have hw:dG ts fin code i=(code,((fin:Nat):Int)):=by
     unfold dG;rw[cZ];simp only[if_neg h5]
    show(dG ts fin code i).1≠0∧_;rw[hw];exact⟨by show code≠0;omega,i,a_⟩
theorem DL(lv vv:Value)(fin i:Nat)(fl:bp):b_ (cO lv vv fin i fl) 2 [.int .i64 ((i+1:Nat):Int)]=cO lv vv fin (i+1) fl:=rfl
theorem DD{w:World}{b fin:Nat}{lv vv:Value}{ts:List Tok}{vs:List aJ}{x:Except bp Nat}(hx:Cx w lv vv ts vs)(h:Rs w b lv vv fin x)(s:List UInt8):aC prog 123 [.pointer (some ⟨b,0,none⟩),.string (str s)] w fun _ w'=>Rs w' b lv vv fin (aF x (eu ts fin s))∧ae [b] w w':=by
 refine aG 16 func123 ?_;refine oC (Gp hx h s) ?_;rintro r w1⟨rfl,ah⟩;have h1:=h.keep ah (by simp);obtain⟨q,hq⟩:∃q,q=C6 ts x s:=⟨_,rfl⟩;rw[←hq];have hlen:=hx.len;cases q with
 | true=>
  cases x with
  |error e=>cases hq
  | ok i=>
   have lL:eg ts i s=true:=hq.symm;have az:=DT lL;have aM:ak w1 b (cO lv vv fin i (0,0)) 135:=h1;have hm:eu ts fin s i=.ok (i+1):=by
    unfold eu;rw[if_pos lL]
   refine au ?_;refine ai _ (aB rfl (ak.cell aM (by rfl))) ?_;refine nM ((i+1:Nat):Int) ?_;refine au ?_;refine aj (aH [.int .i64 ((i+1:Nat):Int)] rfl oH aM (by simp[cO]) (by simp;rfl) ?_);intro w2 cE an aX;rw[DL]at aX;refine au ?_;refine bK func123 rfl ⟨?_,(ae.bG ah).tr an⟩;show Rs w2 b lv vv fin (eu ts fin s i);rw[hm];exact aX
 | false=>
  refine oC (uP (hx.aA ah) h1 5 (by decide)) ?_;rintro r w2⟨dO,an⟩;refine au ?_;refine bK func123 rfl ⟨?_,(ae.bG ah).tr an⟩;cases x with
  |error e=>exact dO
  |ok i=>
   show Rs w2 b lv vv fin (eu ts fin s i);have lL:eg ts i s=false:=hq.symm;unfold eu;rw[lL];exact dO
def Hq(w:World)(b:Nat)(lv vv:Value)(fin:Nat)(r:Value):Except bp (Int×Nat)→Prop
 |.ok (n,j)=>r=.int .i64 n∧Rs w b lv vv fin (.ok j)
 |.error e=>r=.int .i64 0∧Rs w b lv vv fin (.error e)
theorem Ug{w:World}{b fin:Nat}{lv vv:Value}{ts:List Tok}{vs:List aJ}{x:Except bp Nat}(hx:Cx w lv vv ts vs)(h:Rs w b lv vv fin x):aC prog 81 [.pointer (some ⟨b,0,none⟩)] w fun r w'=>Hq w' b lv vv fin r (aF x (fT ts fin))∧ae [b] w w':=by
 refine aG 51 func81 ?_;refine au ?_;have bz:ae [] w w.drew:=(ae.refl _ _).drew;obtain⟨av,cv,rfl⟩:=hx.form;have hlen:=hx.len;cases x with
 |error e=>
  obtain⟨he,i,hb⟩:=h;refine bC (fun w'=>True∧ak w' b (cO (.slice av ts.length cv) vv fin i e) 135) [] bE ?_;have hS:True∧ak w.drew b (cO (.slice av ts.length cv) vv fin i e) 135:=⟨trivial,bz.af hb (by simp)⟩;refine tk 0 ?_;refine dC 1 (ml (x:=.error e) ⟨he,i,hS.2⟩) ?_;rintro r w1⟨rfl,rfl⟩;refine⟨fun _=>hS,?_⟩;unfold eV;refine dp 2 ?_;refine dp 3 ?_;refine dp 4 ?_;refine dp 5 ?_;refine dp 6 ?_;refine dp 7 ?_;refine dp 8 ?_;refine dp 9 ?_;refine dp 10 ?_;refine dp 11 ?_;refine dp 12 ?_;refine dp 13 ?_;refine dp 14 ?_;refine dp 15 ?_;refine dp 16 ?_;refine dp 17 ?_;refine dp 18 ?_;refine dp 19 ?_;refine dp 20 ?_;refine dp 21 ?_;refine dp 22 ?_;refine dp 23 ?_;refine dp 24 ?_;refine dp 25 ?_;refine dp 26 ?_;refine bm ?_;refine oC (uP (hx.aA bz) (x:=.error e) ⟨he,i,hS.2⟩ 5 (by decide)) ?_;rintro r w2⟨dO,an⟩;refine au ?_;refine ay func81 rfl ⟨?_,(ae.bG bz).tr an⟩;exact⟨rfl,dO⟩
 | ok i=>
  have hb:ak w b (cO (.slice av ts.length cv) vv fin i (0,0)) 135:=h;by_cases az:i<ts.length
  ·obtain⟨g,cap,e1,hr⟩:=hx.at (List.getElem?_eq_getElem az);injection e1 with e1 _ gA;subst e1 gA;obtain⟨t,ht⟩:∃t,t=ts[i]:=⟨_,rfl⟩;have cZ:ts[i]?=some t:=by rw[ht];exact List.getElem?_eq_getElem az
   obtain⟨q,hq⟩:∃q,q=t.num:=⟨_,rfl⟩;have et:dr t=dn (t.pos:Nat) t.text q t.val:=by rw[hq];rfl
   rw[←ht,et]at hr;refine bC (fun w'=>w'.rangeAt g (0+i*4) (dn (t.pos:Nat) t.text q t.val)∧ak w' b (cO (.slice (some ⟨g,0,none⟩) ts.length cv) vv fin i (0,0)) 135) [] bE ?_;have hS:w.drew.rangeAt g (0+i*4) (dn (t.pos:Nat) t.text q t.val)∧ak w.drew b (cO (.slice (some ⟨g,0,none⟩) ts.length cv) vv fin i (0,0)) 135:=⟨hr,bz.af hb (by simp)⟩;refine tk 0 ?_;refine dC 1 (ml (x:=.ok i) hS.2) ?_;rintro r w1⟨rfl,rfl⟩;refine⟨fun _=>hS,?_⟩;unfold eV;refine dp 2 ?_;refine dp 3 ?_;refine dp 4 ?_;refine dp 5 ?_;refine dp 6 ?_;refine dp 7 ?_;refine dp 8 ?_;refine dp 9 ?_;refine dp 10 ?_;refine dp 11 ?_;refine dp 12 ?_;refine dp 13 ?_;refine dp 14 ?_;refine dp 15 ?_;refine dp 16 ?_;refine dp 17 ?_;refine dp 18 ?_;refine dp 19 ?_;refine dp 20 ?_;refine dp 21 ?_;refine dp 22 ?_;refine bD 23 _ rfl (fun w=>bJ i rfl az w) ?_;refine tk 24 ?_;refine aI 25 _ rfl (fun w9 aq=>aB rfl (aq.1 2 _ rfl)) hS ?_;refine tk 26 ?_;refine bm ?_;cases q with
   | true=>
    have hm:fT ts fin i=.ok (t.val,i+1):=by
     unfold fT;rw[cZ];simp only[←hq,if_true]
    refine au ?_;refine ai _ (aB rfl (ak.cell hS.2 (by rfl))) ?_;refine nM ((i+1:Nat):Int) ?_;refine au ?_;refine aj (aH [.int .i64 ((i+1:Nat):Int)] rfl oH hS.2 (by simp[cO]) (by simp;rfl) ?_);intro w2 cE an aX;rw[DL]at aX;have pI:=(hx.aA bz).keep hS.2 an;obtain⟨g',iF,gA,dO⟩:=pI.at cZ;injection gA with gA _ aov;have e0:g'=g:=by
     injection gA with gA;injection gA with gA _ _;exact gA.symm
    subst e0;rw[et]at dO;refine au ?_;have rY:ae [] w2 w2.drew:=(ae.refl _ _).drew;refine bC (fun w'=>w'.rangeAt g' (0+i*4) (dn (t.pos:Nat) t.text true t.val)∧ak w' b (cO (.slice (some ⟨g',0,none⟩) ts.length cv) vv fin (i+1) (0,0)) 135) [] bE ?_;have l9:=hS;have hS:w2.drew.rangeAt g' (0+i*4) (dn (t.pos:Nat) t.text true t.val)∧ak w2.drew b (cO (.slice (some ⟨g',0,none⟩) ts.length cv) vv fin (i+1) (0,0)) 135:=⟨dO,rY.af aX (by simp)⟩;refine dp 0 ?_;refine dp 1 ?_;refine dp 2 ?_;refine dp 3 ?_;refine dp 4 ?_;refine dp 5 ?_;refine dp 6 ?_;refine dp 7 ?_;refine uT 8 (((i:Nat):Int)) rfl (by decide+kernel) rfl rfl rfl rfl rfl (by simp only[kK];omega) ?_;refine bD 9 _ rfl (fun w=>bJ i rfl az w) ?_;refine tk 10 ?_;refine aI 11 _ rfl (fun w9 aq=>aB rfl (aq.1 3 _ rfl)) hS ?_;refine tk 12 ?_;refine bm ?_;refine ay func81 rfl ⟨?_,((ae.bG bz).tr an).dt rY⟩;show Hq _ _ _ _ _ _ (fT ts fin i);rw[hm];exact⟨rfl,hS.2⟩
   | false=>
    have hm:fT ts fin i=.error (dG ts fin 5 i):=by
     unfold fT;rw[cZ];simp only[←hq,Bool.false_eq_true,if_false]
    refine oC (uP (hx.aA bz) (x:=.ok i) hS.2 5 (by decide)) ?_;rintro r w2⟨dO,an⟩;refine au ?_;refine ay func81 rfl ⟨?_,(ae.bG bz).tr an⟩;show Hq _ _ _ _ _ _ (fT ts fin i);rw[hm];exact⟨rfl,dO⟩
  ·refine bC (fun w'=>True∧ak w' b (cO (.slice av ts.length cv) vv fin i (0,0)) 135) [] bE ?_;have cZ:ts[i]?=none:=List.getElem?_eq_none (by omega);have hS:True∧ak w.drew b (cO (.slice av ts.length cv) vv fin i (0,0)) 135:=⟨trivial,bz.af hb (by simp)⟩;refine tk 0 ?_;refine dC 1 (ml (x:=.ok i) hS.2) ?_;rintro r w1⟨rfl,rfl⟩;refine⟨fun _=>hS,?_⟩;unfold eV;refine dp 2 ?_;refine dp 3 ?_;refine dp 4 ?_;refine dp 5 ?_;refine dp 6 ?_;refine dp 7 ?_;refine dp 8 ?_;refine dp 9 ?_;refine dp 10 ?_;refine dp 11 ?_;refine dp 12 ?_;refine dp 13 ?_;refine dp 14 ?_;refine dp 15 ?_;refine dp 16 ?_;refine dp 17 ?_;refine dp 18 ?_;refine dp 19 ?_;refine dp 20 ?_;refine dp 21 ?_;refine dp 22 ?_;refine dp 23 ?_;refine dp 24 ?_;refine dp 25 ?_;refine dp 26 ?_;refine bm ?_;refine oC (uP (hx.aA bz) (x:=.ok i) hS.2 5 (by decide)) ?_;rintro r w2⟨dO,an⟩;refine au ?_;refine ay func81 rfl ⟨?_,(ae.bG bz).tr an⟩;have hm:fT ts fin i=.error (dG ts fin 5 i):=by
    unfold fT;rw[cZ]
   show Hq _ _ _ _ _ _ (fT ts fin i);rw[hm];exact⟨rfl,dO⟩
def GJ(w:World)(b:Nat)(lv vv:Value)(fin:Nat)(r:Value):Except bp (List UInt8×Nat)→Prop
 |.ok (s,j)=>r=.string (str s)∧Rs w b lv vv fin (.ok j)
 |.error e=>r=.string (str [])∧Rs w b lv vv fin (.error e)
theorem V1{w:World}{b fin:Nat}{lv vv:Value}{ts:List Tok}{vs:List aJ}{x:Except bp Nat}(hx:Cx w lv vv ts vs)(h:Rs w b lv vv fin x):aC prog 80 [.pointer (some ⟨b,0,none⟩)] w fun r w'=>GJ w' b lv vv fin r (aF x (gu ts fin))∧ae [b] w w':=by
 refine aG 52 func80 ?_;refine au ?_;have bz:ae [] w w.drew:=(ae.refl _ _).drew;obtain⟨av,cv,rfl⟩:=hx.form;have hlen:=hx.len;cases x with
 |error e=>
  obtain⟨he,i,hb⟩:=h;refine bC (fun w'=>True∧ak w' b (cO (.slice av ts.length cv) vv fin i e) 135) [] bE ?_;have hS:True∧ak w.drew b (cO (.slice av ts.length cv) vv fin i e) 135:=⟨trivial,bz.af hb (by simp)⟩;refine tk 0 ?_;refine dC 1 (ml (x:=.error e) ⟨he,i,hS.2⟩) ?_;rintro r w1⟨rfl,rfl⟩;refine⟨fun _=>hS,?_⟩;unfold eV;refine dp 2 ?_;refine dp 3 ?_;refine dp 4 ?_;refine dp 5 ?_;refine dp 6 ?_;refine dp 7 ?_;refine dp 8 ?_;refine dp 9 ?_;refine dp 10 ?_;refine dp 11 ?_;refine dp 12 ?_;refine dp 13 ?_;refine dp 14 ?_;refine dp 15 ?_;refine dp 16 ?_;refine dp 17 ?_;refine dp 18 ?_;refine dp 19 ?_;refine dp 20 ?_;refine dp 21 ?_;refine dp 22 ?_;refine dp 23 ?_;refine dp 24 ?_;refine dp 25 ?_;refine dp 26 ?_;refine dp 27 ?_;refine bm ?_;refine oC (uP (hx.aA bz) (x:=.error e) ⟨he,i,hS.2⟩ 5 (by decide)) ?_;rintro r w2⟨dO,an⟩;refine au ?_;refine ay func80 rfl ⟨?_,(ae.bG bz).tr an⟩;exact⟨rfl,dO⟩
 | ok i=>
  have hb:ak w b (cO (.slice av ts.length cv) vv fin i (0,0)) 135:=h;by_cases az:i<ts.length
  ·obtain⟨g,cap,e1,hr⟩:=hx.at (List.getElem?_eq_getElem az);injection e1 with e1 _ gA;subst e1 gA;obtain⟨t,ht⟩:∃t,t=ts[i]:=⟨_,rfl⟩;have cZ:ts[i]?=some t:=by rw[ht];exact List.getElem?_eq_getElem az
   obtain⟨q,hq⟩:∃q,q=t.num:=⟨_,rfl⟩;have et:dr t=dn (t.pos:Nat) t.text q t.val:=by rw[hq];rfl
   rw[←ht,et]at hr;refine bC (fun w'=>w'.rangeAt g (0+i*4) (dn (t.pos:Nat) t.text q t.val)∧ak w' b (cO (.slice (some ⟨g,0,none⟩) ts.length cv) vv fin i (0,0)) 135) [] bE ?_;have hS:w.drew.rangeAt g (0+i*4) (dn (t.pos:Nat) t.text q t.val)∧ak w.drew b (cO (.slice (some ⟨g,0,none⟩) ts.length cv) vv fin i (0,0)) 135:=⟨hr,bz.af hb (by simp)⟩;refine tk 0 ?_;refine dC 1 (ml (x:=.ok i) hS.2) ?_;rintro r w1⟨rfl,rfl⟩;refine⟨fun _=>hS,?_⟩;unfold eV;refine dp 2 ?_;refine dp 3 ?_;refine dp 4 ?_;refine dp 5 ?_;refine dp 6 ?_;refine dp 7 ?_;refine dp 8 ?_;refine dp 9 ?_;refine dp 10 ?_;refine dp 11 ?_;refine dp 12 ?_;refine dp 13 ?_;refine dp 14 ?_;refine dp 15 ?_;refine dp 16 ?_;refine dp 17 ?_;refine dp 18 ?_;refine dp 19 ?_;refine dp 20 ?_;refine dp 21 ?_;refine dp 22 ?_;refine bD 23 _ rfl (fun w=>bJ i rfl az w) ?_;refine tk 24 ?_;refine aI 25 _ rfl (fun w9 aq=>aB rfl (aq.1 1 _ rfl)) hS ?_;have pS:t.text.length≤100000:=hx.bI t (List.mem_of_getElem? cZ);refine dC 26 (TJ (str t.text) (by rw[oF];omega) _) ?_;rintro r w1⟨rfl,rfl⟩;refine⟨fun _=>hS,?_⟩;rw[UW];refine tk 27 ?_;refine bm ?_;obtain⟨z,hz⟩:∃z,z=rU t.text:=⟨_,rfl⟩;rw[←hz];cases z with
   | true=>
    have hm:gu ts fin i=.ok (t.text,i+1):=by
     unfold gu;rw[cZ];simp only[←hz,if_true]
    refine au ?_;refine ai _ (aB rfl (ak.cell hS.2 (by rfl))) ?_;refine nM ((i+1:Nat):Int) ?_;refine au ?_;refine aj (aH [.int .i64 ((i+1:Nat):Int)] rfl oH hS.2 (by simp[cO]) (by simp;rfl) ?_);intro w2 cE an aX;rw[DL]at aX;have pI:=(hx.aA bz).keep hS.2 an;obtain⟨g',iF,gA,dO⟩:=pI.at cZ;injection gA with gA _ aov;have e0:g'=g:=by
     injection gA with gA;injection gA with gA _ _;exact gA.symm
    subst e0;rw[et]at dO;refine au ?_;have rY:ae [] w2 w2.drew:=(ae.refl _ _).drew;refine bC (fun w'=>w'.rangeAt g' (0+i*4) (dn (t.pos:Nat) t.text q t.val)∧ak w' b (cO (.slice (some ⟨g',0,none⟩) ts.length cv) vv fin (i+1) (0,0)) 135) [] bE ?_;have l9:=hS;have hS:w2.drew.rangeAt g' (0+i*4) (dn (t.pos:Nat) t.text q t.val)∧ak w2.drew b (cO (.slice (some ⟨g',0,none⟩) ts.length cv) vv fin (i+1) (0,0)) 135:=⟨dO,rY.af aX (by simp)⟩;refine dp 0 ?_;refine dp 1 ?_;refine dp 2 ?_;refine dp 3 ?_;refine dp 4 ?_;refine dp 5 ?_;refine dp 6 ?_;refine dp 7 ?_;refine uT 8 (((i:Nat):Int)) rfl (by decide+kernel) rfl rfl rfl rfl rfl (by simp only[kK];omega) ?_;refine bD 9 _ rfl (fun w=>bJ i rfl az w) ?_;refine tk 10 ?_;refine aI 11 _ rfl (fun w9 aq=>aB rfl (aq.1 1 _ rfl)) hS ?_;refine tk 12 ?_;refine bm ?_;refine ay func80 rfl ⟨?_,((ae.bG bz).tr an).dt rY⟩;show GJ _ _ _ _ _ _ (gu ts fin i);rw[hm];exact⟨rfl,hS.2⟩
   | false=>
    have hm:gu ts fin i=.error (dG ts fin 5 i):=by
     unfold gu;rw[cZ];simp only[←hz,Bool.false_eq_true,if_false]
    refine oC (uP (hx.aA bz) (x:=.ok i) hS.2 5 (by decide)) ?_;rintro r w2⟨dO,an⟩;refine au ?_;refine ay func80 rfl ⟨?_,(ae.bG bz).tr an⟩;show GJ _ _ _ _ _ _ (gu ts fin i);rw[hm];exact⟨rfl,dO⟩
  ·refine bC (fun w'=>True∧ak w' b (cO (.slice av ts.length cv) vv fin i (0,0)) 135) [] bE ?_;have cZ:ts[i]?=none:=List.getElem?_eq_none (by omega);have hS:True∧ak w.drew b (cO (.slice av ts.length cv) vv fin i (0,0)) 135:=⟨trivial,bz.af hb (by simp)⟩;refine tk 0 ?_;refine dC 1 (ml (x:=.ok i) hS.2) ?_;rintro r w1⟨rfl,rfl⟩;refine⟨fun _=>hS,?_⟩;unfold eV;refine dp 2 ?_;refine dp 3 ?_;refine dp 4 ?_;refine dp 5 ?_;refine dp 6 ?_;refine dp 7 ?_;refine dp 8 ?_;refine dp 9 ?_;refine dp 10 ?_;refine dp 11 ?_;refine dp 12 ?_;refine dp 13 ?_;refine dp 14 ?_;refine dp 15 ?_;refine dp 16 ?_;refine dp 17 ?_;refine dp 18 ?_;refine dp 19 ?_;refine dp 20 ?_;refine dp 21 ?_;refine dp 22 ?_;refine dp 23 ?_;refine dp 24 ?_;refine dp 25 ?_;refine dp 26 ?_;refine dp 27 ?_;refine bm ?_;refine oC (uP (hx.aA bz) (x:=.ok i) hS.2 5 (by decide)) ?_;rintro r w2⟨dO,an⟩;refine au ?_;refine ay func80 rfl ⟨?_,(ae.bG bz).tr an⟩;have hm:gu ts fin i=.error (dG ts fin 5 i):=by
    unfold gu;rw[cZ]
   show GJ _ _ _ _ _ _ (gu ts fin i);rw[hm];exact⟨rfl,dO⟩
def yH(w:World)(b:Nat)(lv vv:Value)(fin:Nat)(r:Value):Except bp (Nat×Nat)→Prop
 |.ok (k,j)=>r=.int .i64 (k:Nat)∧Rs w b lv vv fin (.ok j)
 |.error e=>r=.int .i64 0∧Rs w b lv vv fin (.error e)
theorem U5{w:World}{b fin g:Nat}{lv vv:Value}{ts:List Tok}{vs:List aJ}{i:Nat}{of:Nat→List UInt8}{most:Nat}(hx:Cx w lv vv ts vs)(h:Rs w b lv vv fin (.ok i))(deep:Nat)(D3:deep≤1000)(arq:most≤1000)(hg:pd prog g=true) (IH:∀(k:Nat) (w:World),1≤k→k≤most→aC prog g [.int .i64 (k:Nat)] w fun r w'=>r=.string (str (of k))∧ae [] w w'):aC prog 117 [.pointer (some ⟨b,0,none⟩),.int .i64 (deep:Nat),.int .i64 (most:Nat),.func (.func g) #[] #[]] w fun r w'=> yH w' b lv vv fin r (aF (if 12<deep then .error (dG ts fin 4 i)else .ok i) (lR ts fin of most))∧ae [b] w w':=by
 refine aG 36 func117 ?_;refine au ?_;obtain⟨x0,mG⟩:∃x0:Except bp Nat,x0=if 12<deep then .error (dG ts fin 4 i)else .ok i:=⟨_,rfl⟩;rw[←mG];have main:∀(x1:Except bp Nat),x1=aF x0 (eu ts fin [40])→aF x0 (lR ts fin of most)=aF x1 fun j=>match mo ts of j 1 most with
   |some k=>.ok (k,j+1)
   |none=>.error (dG ts fin 5 j):=by
  intro x1 h1;subst h1;unfold lR;cases x0<;>rfl
 have hlen:=hx.len;by_cases hd:12<deep
 ·rw[if_pos hd]at mG;refine ye ?_;refine oC (uP hx h 4 (by decide)) ?_;rintro r w1⟨fh,ah⟩;have q7:=hx.pB h ah;have aa0:Rs w1 b lv vv fin x0:=by rw[mG];exact fh
  refine oC (DD q7 aa0 [40]) ?_;rintro r w2⟨dO,an⟩;have pI:=q7.pB aa0 an;have br:=ah.tr an;obtain⟨x1,cJ⟩:∃x1,x1=aF x0 (eu ts fin [40]):=⟨_,rfl⟩;rw[main x1 cJ];rw[←cJ]at dO;refine au ?_;refine cP (fun m σ w'=>∃k:Nat,1≤k∧k≤most+1∧m=most+1-k∧σ=[(0,.pointer (some ⟨b,0,none⟩)),(2,.int .i64 (most:Nat)),(3,.func (.func g) #[] #[]),(9,.int .i64 (k:Nat))]∧(∀j,x1=.ok j→mo ts of j 1 most=mo ts of j k (most+1-k))∧
   Rs w' b lv vv fin x1∧Cx w' lv vv ts vs∧ae [b] w w') most _ ?_ ⟨1,by omega,by omega,by omega,rfl,fun j _=>by rw[Nat.add_sub_cancel],dO,pI,br⟩ ?_
  ·exact⟨rfl,rfl,rfl,rfl,trivial⟩
  rintro m σ w3 ih⟨k,ah,aow,rfl,rfl,BV,uK,Hr,aw⟩;refine au ?_;by_cases hle:k≤most
  ·refine ye ?_;refine au ?_;refine aj (rK (fst:=[]) (cap:=[]) rfl rfl rfl rfl hg ((IH k w3 ah hle).mono ?_));rintro r w4⟨rfl,ax⟩;have jy:=uK.keep ax (by simp);have nZ:=Hr.aA ax;refine oC (Gp nZ jy (of k)) ?_;rintro r w5⟨rfl,aE⟩;have jW:=jy.keep aE (by simp);have pJ:=nZ.aA aE;have cK:=(aw.dt ax).dt aE;obtain⟨q,hq⟩:∃q,q=C6 ts x1 (of k):=⟨_,rfl⟩;rw[←hq];have GK:most+1-k=(most+1-(k+1))+1:=by omega
   cases q with
   | true=>
    cases x1 with
    |error e=>cases hq
    |ok j=>
     have lL:eg ts j (of k)=true:=hq.symm;have az:=DT lL;have cr:ak w5 b (cO lv vv fin j (0,0)) 135:=jW;refine au ?_;refine ai _ (aB rfl (ak.cell cr (by rfl))) ?_;refine nM ((j+1:Nat):Int) ?_;refine au ?_;refine aj (aH [.int .i64 ((j+1:Nat):Int)] rfl oH cr (by simp[cO]) (by simp;rfl) ?_);intro w6 iI aD dM;rw[DL]at dM;refine au ?_;refine ay func117 rfl ⟨?_,cK.tr aD⟩;show yH _ _ _ _ _ _ (match mo ts of j 1 most with|some k=>_|none=>_);rw[BV j rfl,GK];unfold mo;rw[if_pos lL];exact⟨rfl,dM⟩
   | false=>
    refine nM ((k+1:Nat):Int) ?_;refine au ?_;refine bj ?_ (ih _ _ _ ?_ ⟨k+1,by omega,by omega,rfl,rfl,?_,jW,pJ,cK⟩)
    ·exact⟨rfl,rfl,rfl,rfl,trivial⟩
    ·omega
    ·intro j hj;subst hj;have lL:eg ts j (of k)=false:=hq.symm;rw[BV j rfl,GK,mo,if_neg (by rw[lL];decide)]
  ·refine aL ?_;refine oC (uP Hr uK 5 (by decide)) ?_;rintro r w4⟨jy,ax⟩;refine au ?_;refine ay func117 rfl ⟨?_,aw.tr ax⟩;cases x1 with
   |error e=>exact⟨rfl,jy⟩
   |ok j=>
    show yH _ _ _ _ _ _ (match mo ts of j 1 most with|some k=>_|none=>_);have e0:most+1-k=0:=by omega
    rw[BV j rfl,e0];exact⟨rfl,jy⟩
 ·rw[if_neg hd]at mG;have h0:Rs w b lv vv fin x0:=by rw[mG];exact h
  refine aL ?_;refine oC (DD hx h0 [40]) ?_;rintro r w2⟨dO,an⟩;have pI:=hx.pB h0 an;have br:=an;obtain⟨x1,cJ⟩:∃x1,x1=aF x0 (eu ts fin [40]):=⟨_,rfl⟩;rw[main x1 cJ];rw[←cJ]at dO;refine au ?_;refine cP (fun m σ w'=>∃k:Nat,1≤k∧k≤most+1∧m=most+1-k∧σ=[(0,.pointer (some ⟨b,0,none⟩)),(2,.int .i64 (most:Nat)),(3,.func (.func g) #[] #[]),(9,.int .i64 (k:Nat))]∧(∀j,x1=.ok j→mo ts of j 1 most=mo ts of j k (most+1-k))∧
   Rs w' b lv vv fin x1∧Cx w' lv vv ts vs∧ae [b] w w') most _ ?_ ⟨1,by omega,by omega,by omega,rfl,fun j _=>by rw[Nat.add_sub_cancel],dO,pI,br⟩ ?_
  ·exact⟨rfl,rfl,rfl,rfl,trivial⟩
  rintro m σ w3 ih⟨k,ah,aow,rfl,rfl,BV,uK,Hr,aw⟩;refine au ?_;by_cases hle:k≤most
  ·refine ye ?_;refine au ?_;refine aj (rK (fst:=[]) (cap:=[]) rfl rfl rfl rfl hg ((IH k w3 ah hle).mono ?_));rintro r w4⟨rfl,ax⟩;have jy:=uK.keep ax (by simp);have nZ:=Hr.aA ax;refine oC (Gp nZ jy (of k)) ?_;rintro r w5⟨rfl,aE⟩;have jW:=jy.keep aE (by simp);have pJ:=nZ.aA aE;have cK:=(aw.dt ax).dt aE;obtain⟨q,hq⟩:∃q,q=C6 ts x1 (of k):=⟨_,rfl⟩;rw[←hq];have GK:most+1-k=(most+1-(k+1))+1:=by omega
   cases q with
   | true=>
    cases x1 with
    |error e=>cases hq
    |ok j=>
     have lL:eg ts j (of k)=true:=hq.symm;have az:=DT lL;have cr:ak w5 b (cO lv vv fin j (0,0)) 135:=jW;refine au ?_;refine ai _ (aB rfl (ak.cell cr (by rfl))) ?_;refine nM ((j+1:Nat):Int) ?_;refine au ?_;refine aj (aH [.int .i64 ((j+1:Nat):Int)] rfl oH cr (by simp[cO]) (by simp;rfl) ?_);intro w6 iI aD dM;rw[DL]at dM;refine au ?_;refine ay func117 rfl ⟨?_,cK.tr aD⟩;show yH _ _ _ _ _ _ (match mo ts of j 1 most with|some k=>_|none=>_);rw[BV j rfl,GK];unfold mo;rw[if_pos lL];exact⟨rfl,dM⟩
   | false=>
    refine nM ((k+1:Nat):Int) ?_;refine au ?_;refine bj ?_ (ih _ _ _ ?_ ⟨k+1,by omega,by omega,rfl,rfl,?_,jW,pJ,cK⟩)
    ·exact⟨rfl,rfl,rfl,rfl,trivial⟩
    ·omega
    ·intro j hj;subst hj;have lL:eg ts j (of k)=false:=hq.symm;rw[BV j rfl,GK,mo,if_neg (by rw[lL];decide)]
  ·refine aL ?_;refine oC (uP Hr uK 5 (by decide)) ?_;rintro r w4⟨jy,ax⟩;refine au ?_;refine ay func117 rfl ⟨?_,aw.tr ax⟩;cases x1 with
   |error e=>exact⟨rfl,jy⟩
   |ok j=>
    show yH _ _ _ _ _ _ (match mo ts of j 1 most with|some k=>_|none=>_);have e0:most+1-k=0:=by omega
    rw[BV j rfl,e0];exact⟨rfl,jy⟩
theorem MX{w:World}{b fin:Nat}{lv vv:Value}{ts:List Tok}{vs:List aJ}{x:Except bp Nat}(hx:Cx w lv vv ts vs)(h:Rs w b lv vv fin x):aC prog 120 [.pointer (some ⟨b,0,none⟩)] w fun r w'=>yH w' b lv vv fin r (aF x (kq ts fin vs))∧ae [b] w w':=by
 refine aG 44 func120 ?_;have ars:=hx.vk;obtain⟨i0,fl0,gI⟩:=h.af;have Ar:∀i,x=.ok i→i=i0:=by
  intro i hi;subst hi;have hb:ak w b (cO lv vv fin i (0,0)) 135:=h;unfold ak at hb gI;rw[hb]at gI;injection gI with gI;injection gI with gI;have h2:=congrArg (fun a:Array Value=>a[2]?) gI;simp[cO]at h2;omega
 refine au ?_;refine ai _ (aB rfl (ak.cell gI (by rfl))) ?_;refine oC (V1 hx h) ?_;rintro r w1⟨fh,ah⟩;have q7:=hx.pB h ah;have amd:aF x (kq ts fin vs)=aF (aF x (gu ts fin)) fun(s,j)=>match pw vs s with
   |some k=>.ok (k,j)
   |none=>.error (dG ts fin 10 i0):=by
  cases x with
  |error e=>rfl
  |ok i=>
   have:=Ar i rfl;subst this;rfl
 rw[amd];cases hX:aF x (gu ts fin)with
 | error e=>
  rw[hX]at fh;obtain⟨rfl,fh⟩:=fh;obtain⟨av,cv,rfl⟩:=q7.Zt;obtain⟨he,i1,aM⟩:=fh;refine au ?_;refine cP (fun m σ w'=>σ=[(0,.pointer (some ⟨b,0,none⟩)),(5,.int .i64 0)]∧m=0∧w'=w1) 0 _ ?_ ⟨rfl,rfl,rfl⟩ ?_
  ·exact⟨rfl,rfl,trivial⟩
  rintro m σ w2 ih⟨rfl,rfl,rfl⟩;refine au ?_;refine ai _ (aB rfl (ak.cell aM (by rfl))) ?_;refine au ?_;by_cases h0:0<vs.length
  ·refine ye ?_;refine oC (ml (x:=.error e) ⟨he,i1,aM⟩) ?_;rintro r w3⟨rfl,rfl⟩;unfold eV;refine oC (ml (x:=.error e) ⟨he,i1,aM⟩) ?_;rintro r w4⟨rfl,rfl⟩;unfold eV;refine au ?_;exact ay func120 rfl ⟨⟨rfl,he,i1,aM⟩,ah⟩
  ·refine aL ?_;refine oC (ml (x:=.error e) ⟨he,i1,aM⟩) ?_;rintro r w4⟨rfl,rfl⟩;unfold eV;refine au ?_;exact ay func120 rfl ⟨⟨rfl,he,i1,aM⟩,ah⟩
 | ok sj=>
  obtain⟨s,j⟩:=sj;rw[hX]at fh;obtain⟨rfl,fh⟩:=fh;have aM:ak w1 b (cO lv vv fin j (0,0)) 135:=fh;obtain⟨av,cv,rfl⟩:=q7.Zt;refine au ?_;refine cP (fun m σ w'=>∃k:Nat,k≤vs.length∧m=vs.length-k∧σ=[(0,.pointer (some ⟨b,0,none⟩)),(3,.int .i64 (i0:Nat)),(4,.string (str s)),(5,.int .i64 (k:Nat))]∧pw vs s=(pw (vs.drop k) s).map (·+k)∧w'=w1) vs.length _ ?_
   ⟨0,by omega,by omega,rfl,by simp,rfl⟩ ?_
  ·exact⟨rfl,rfl,rfl,rfl,trivial⟩
  rintro m σ w2 ih⟨k,hk,rfl,rfl,hf,rfl⟩;refine au ?_;refine ai _ (aB rfl (ak.cell aM (by rfl))) ?_;refine au ?_;by_cases az:k<vs.length
  ·refine ye ?_;refine oC (ml (x:=.ok j) aM) ?_;rintro r w3⟨rfl,rfl⟩;unfold eV;refine au ?_;refine ai _ (aB rfl (ak.cell aM (by rfl))) ?_;refine au ?_;obtain⟨g,cap,e1,hr⟩:=q7.atV (List.getElem?_eq_getElem az);injection e1 with e1 _ gA;subst e1 gA;refine ai _ (bJ k rfl az w3) ?_;refine au ?_;refine ai _ (aB rfl (hr 0 _ rfl)) ?_;refine au ?_;rw[List.drop_eq_getElem_cons az]at hf;rw[UX]at hf;have aox:(vs[k].1.toList==(str s).toList)=(vs[k].1.data.toList==s):=by
    rw[ji,←ji vs[k].1.data.toList,F2]
   refine ai _ (o_ vs[k].1 (str s) (vs[k].1.data.toList==s) rfl rfl rfl aox w3) ?_;obtain⟨q,hq⟩:∃q,q=(vs[k].1.data.toList==s):=⟨_,rfl⟩;rw[←hq]at hf⊢;cases q with
   |true=>
    rw[if_pos rfl]at hf;refine au ?_;refine ay func120 rfl ⟨?_,ah⟩;show yH _ _ _ _ _ _ (match pw vs s with|some k=>_|none=>_);rw[hf];simp only[Option.map_some,Nat.zero_add];exact⟨rfl,fh⟩
   | false=>
    rw[if_neg (by decide)]at hf;refine nM ((k+1:Nat):Int) ?_;refine au ?_;refine bj ?_ (ih _ _ _ ?_ ⟨k+1,az,rfl,rfl,?_,rfl⟩)
    ·exact⟨rfl,rfl,rfl,rfl,trivial⟩
    ·omega
    ·rw[hf,Option.map_map];congr 1;funext z;simp only[Function.comp];omega
  ·refine aL ?_;refine au ?_;have mF:pw vs s=none:=by
    rw[hf,List.drop_of_length_le (by omega)];rfl
   refine oC (ml (x:=.ok j) aM) ?_;rintro r w3⟨rfl,rfl⟩;unfold eV;refine au ?_;refine aj (aH [.int .i64 ((i0:Nat):Int)] rfl oH aM (by simp[cO]) (by simp;rfl) ?_);intro w4 cz ax a_;have jx:b_ (cO lv (.slice av vs.length cv) fin j (0,0)) 2 [.int .i64 ((i0:Nat):Int)]=cO lv (.slice av vs.length cv) fin i0 (0,0):=rfl;rw[jx]at a_;have nZ:=q7.keep aM ax;refine oC (uP nZ (x:=.ok i0) a_ 10 (by decide)) ?_;rintro r w5⟨jW,aE⟩;refine au ?_;refine ay func120 rfl ⟨?_,(ah.tr ax).tr aE⟩;show yH _ _ _ _ _ _ (match pw vs s with|some k=>_|none=>_);rw[mF];exact⟨rfl,jW⟩
def aa1(w0 w:World)(b:Nat)(lv vv:Value)(fin:Nat)(r:Value):Except bp (ET×Nat)→Prop
 |.ok (t,j)=>(∃(cs:List Value) (F:Nat→Prop),r=.agg cs.toArray∧dY F w cs t∧∀c,F c→w0.heap.size≤c∧c<w.heap.size)∧Rs w b lv vv fin (.ok j)
 |.error e=>(∃cs:List Value,r=.agg cs.toArray∧cs.length=4∧∀u∈cs,u.oneCell'=true)∧Rs w b lv vv fin (.error e)
theorem ag_(k:Nat)(w:World)(h1:1≤k)(h8:k≤8):aC prog 154 [.int .i64 (k:Nat)] w fun r w'=>r=.string (str (sQ k))∧ae [] w w':=by
 have:=aha (k:Nat) w;unfold wR at this;rw[if_pos (by omega),Int.toNat_natCast]at this;exact this
theorem V2{b fin:Nat}{lv vv:Value}{ts:List Tok}{vs:List aJ}:∀(f deep i:Nat) {w:World},deep+f=13→Cx w lv vv ts vs→Rs w b lv vv fin (.ok i)→aC prog 121 [.pointer (some ⟨b,0,none⟩),.int .i64 (deep:Nat)] w fun r w'=>aa1 w w' b lv vv fin r (gM ts fin vs f i)∧ae [b] w w':=by
 intro f;induction f using Nat.strongRecOn with
 |_ f ih=>
 intro deep i w ff hx h;have o6:=h.lt;refine aG 51 func121 ?_;refine au ?_;refine aj (bO _ rfl J8 ?_);intro w1 b4 Ey bt ah gl;have fh:=h.keep ah (by simp);have q7:=hx.aA ah;refine oC (U5 (g:=154) (of:=sQ) (most:=8) q7 fh deep (by omega) (by decide) (by decide+kernel) ag_) ?_;rintro r w2⟨q8,an⟩;rw[Xe ts fin vs ff i];obtain⟨X1,cm⟩:∃X1,X1=aF (if 12<deep then .error (dG ts fin 4 i)else .ok i) (lR ts fin sQ 8):=⟨_,rfl⟩;rw[←cm]at q8⊢;have pI:=q7.pB fh an;have oB:=an.af gl (by simp;omega);have br:ae [b] w w2:=(ae.bG ah).tr an;have Ik:w1.heap.size≤w2.heap.size:=an.size
 --its kind,or 0
 obtain⟨kk,rfl,jQ,dO,zm⟩:∃kk:Nat,r=.int .i64 (kk:Nat)∧(kk=0→∃e,X1=.error e)∧Rs w2 b lv vv fin (eQ X1)∧(kk≠0→1≤kk∧kk≤8∧1≤f∧∃i1,X1=.ok (kk,i1)):=by
  cases hc:X1 with
  |error e=>
   rw[hc]at q8;exact⟨0,q8.1,fun _=>⟨e,rfl⟩,q8.2,fun h=>absurd rfl h⟩
  | ok p=>
   obtain⟨k,i1⟩:=p;rw[hc]at q8;have hd:¬12<deep:=by
    intro hd;rw[if_pos hd]at cm;rw[hc]at cm;cases cm
   rw[if_neg hd,hc]at cm;have hb:=Bb cm.symm;refine⟨k,q8.1,fun h0=>by have:=hb.2.2.1;dsimp only at this;omega,q8.2,fun _=>⟨hb.2.2.1,hb.2.2.2,by omega,i1,rfl⟩⟩
 refine ai _ (bL _ rfl rfl (UY (kk:Nat)) w2) ?_;refine aj (bO _ rfl J8 ?_);intro w3 b5 Ad cw aw fe;refine aj (aH (xC (kk:Nat) 0 0 (.slice none 0 0)) rfl zu fe (by simp[xC]) (DU rfl) ?_);intro w4 cz ax hU;rw[bs (by rfl)]at hU;have eA:ae [] w2 w4:=aw.aO ax (by omega);have jy:=dO.keep eA (by simp);have nZ:=pI.aA eA;have rG:=eA.af oB (by simp);have dJ:ae [b] w w4:=br.dt eA;obtain⟨B,hB⟩:∃B,B=w4.heap.size:=⟨_,rfl⟩;have tG:b4<B:=by have:=rG.lt;omega
 have vP:b5<B:=by have:=hU.lt;omega
 have hbB:b<B:=by have:=dJ.size;omega
 have aaF:b4≠b5:=by omega
 have aaG:b≠b4:=by omega
 have aaH:b≠b5:=by omega
 have uD:w.heap.size≤B:=by have:=dJ.size;omega
 obtain⟨one,iQ⟩:∃one,one=gM ts fin vs (f-1):=⟨_,rfl⟩;rw[←iQ];obtain⟨bq,fA⟩:∃bq,bq=aF X1 (fun(k,i1)=>wQ ts fin vs one k i1):=⟨_,rfl⟩;rw[←fA];refine aP ?_;refine bT ?_;refine fx (fun σ' w'=>∃(X2:Except bp (Int×Nat)) (n:Int),bq=aF X2 (fun p=>uc ts fin vs one kk p.1 p.2)∧(∀p,X2=.ok p→p.1=n)∧(kk=0→∃e,X2=.error e)∧Rs w' b lv vv fin (eQ X2)∧
  ak w' b5 (xC (kk:Nat) 0 n (.slice none 0 0)) 141∧ak w' b4 [.int .i64 0,.int .i64 0,.int .i64 0,.slice none 0 0] 141∧Cx w' lv vv ts vs∧ae [b] w w'∧B≤w'.heap.size∧
  Sub [(0,.pointer (some ⟨b,0,none⟩)),(1,.int .i64 (deep:Nat)),(4,.pointer (some ⟨b4,0,none⟩)),(5,.pointer (some ⟨b5,0,none⟩))] σ') ?_ ?_
 rotate_left
 ·intro dy;refine bT ?_;refine cH ?_;refine aP ?_;refine ai _ (aB rfl (ak.cell hU (by rfl))) ?_;by_cases oS:kk=1
  ·obtain⟨_,_,_,i1,hX⟩:=zm (by omega);rw[hX]at jy;refine ye ?_;refine aP ?_;refine cH ?_;refine aP ?_;refine oC (Ug nZ jy) ?_;rintro r w5⟨Ag,aE⟩;have pJ:=nZ.pB jy aE;have iz:=aE.af hU (by simp;omega);have tM:=aE.af rG (by simp;omega);have hn:∃n:Int,r=.int .i64 n∧(∀p,fT ts fin i1=.ok p→p.1=n)∧Rs w5 b lv vv fin (eQ (fT ts fin i1)):=by
    have Ec:Hq w5 b lv vv fin r (fT ts fin i1):=Ag;cases hc:fT ts fin i1 with
    |error e=>
     rw[hc]at Ec;exact⟨0,Ec.1,fun p hp=>(by cases hp),Ec.2⟩
    |ok p=>
     rw[hc]at Ec;exact⟨p.1,Ec.1,fun q hq=>by injection hq with hq;rw[←hq],Ec.2⟩
   obtain⟨n,rfl,iy,jW⟩:=hn;refine aP ?_;refine aj (aH [.int .i64 n] rfl VV iz (by simp[xC]) (by simp;rfl) ?_);intro w6 iI aD iK;have jx:b_ (xC (kk:Nat) 0 0 (.slice none 0 0)) 2 [.int .i64 n]=xC (kk:Nat) 0 n (.slice none 0 0):=rfl;rw[jx]at iK;refine aP ?_;refine dy _ _ ⟨fT ts fin i1,n,?_,iy,fun h0=>by omega,jW.keep aD (by simp;omega),iK,aD.af tM (by simp;omega),?_,?_,?_,rfl,rfl,rfl,rfl,trivial⟩
   ·rw[fA,hX];show wQ ts fin vs one kk i1=_;unfold wQ;rw[if_pos oS]
   ·obtain⟨B1,gx⟩:=pJ.tok;obtain⟨B2,mE⟩:=pJ.var;exact⟨⟨B1,gx.keep aD (by intro k aK;simp;exact fun e=>fQ gx iz (by decide) k aK e.symm)⟩,⟨B2,mE.keep aD (by intro k aK;simp;exact fun e=>fQ mE iz (by decide) k aK e.symm)⟩,pJ.len,pJ.vk,pJ.bI⟩
   ·exact(dJ.tr aE).aO aD (by omega)
   ·have:=aE.size;have:=aD.size;omega
  ·refine aL ?_;refine aP ?_;refine dy _ _ ⟨aF X1 fun p=>.ok (0,p.2),0,?_,?_,?_,?_,hU,rG,nZ,dJ,by omega,rfl,rfl,rfl,rfl,trivial⟩
   ·rw[fA];by_cases h0:kk=0
    ·obtain⟨e,he⟩:=jQ h0;rw[he];rfl
    ·obtain⟨_,_,_,i1,hX⟩:=zm h0;rw[hX];show wQ ts fin vs one kk i1=_;unfold wQ;rw[if_neg oS];rfl
   ·intro p hp;obtain⟨a,_,ha⟩:=cM hp;injection ha with ha;rw[←ha]
   ·intro h0;obtain⟨e,he⟩:=jQ h0;exact⟨e,by rw[he];rfl⟩
   ·have:eQ (aF X1 fun p=>.ok ((0:Int),p.2))=eQ X1:=by
     unfold eQ;cases X1<;>rfl
    rw[this];exact jy
 rintro σ' w5⟨X2,n,bR,iZ,ame,jW,iz,tM,pJ,cK,aoy,bH⟩;refine bj bH ?_;refine bT ?_;refine fx (fun σ' w'=>∃(X3:Except bp (Nat×Nat)) (v:Nat),bq=aF X3 (fun p=>BS ts fin one kk n p.1 p.2)∧(∀p,X3=.ok p→p.1=v)∧(kk=0→∃e,X3=.error e)∧Rs w' b lv vv fin (eQ X3)∧
  ak w' b5 (xC (kk:Nat) (v:Nat) n (.slice none 0 0)) 141∧ak w' b4 [.int .i64 0,.int .i64 0,.int .i64 0,.slice none 0 0] 141∧Cx w' lv vv ts vs∧ae [b] w w'∧B≤w'.heap.size∧
  Sub [(0,.pointer (some ⟨b,0,none⟩)),(1,.int .i64 (deep:Nat)),(4,.pointer (some ⟨b4,0,none⟩)),(5,.pointer (some ⟨b5,0,none⟩))] σ') ?_ ?_
 rotate_left
 ·intro nS;by_cases C3:kk=2∨kk=3
  ·have key:∀(w6:World) (r:Value),yH w6 b lv vv fin r (aF (eQ X2) (kq ts fin vs))→ae [b] w5 w6→∃(v:Nat) (X3:Except bp (Nat×Nat)),r=.int .i64 (v:Nat)∧bq=aF X3 (fun p=>BS ts fin one kk n p.1 p.2)∧(∀p,X3=.ok p→p.1=v)∧Rs w6 b lv vv fin (eQ X3):=by
    intro w6 r hv aD;have cF:bq=aF (aF (eQ X2) (kq ts fin vs)) (fun p=>BS ts fin one kk n p.1 p.2):=by
     rw[bR];cases X2 with
     |error e=>rfl
     |ok p=>
      have:=iZ p rfl;subst this;show uc ts fin vs one kk p.1 p.2=aF (kq ts fin vs p.2) _;unfold uc;rw[if_pos C3]
    cases hc:aF (eQ X2) (kq ts fin vs)with
    |error e=>
     rw[hc]at hv cF;exact⟨0,.error e,hv.1,cF,fun p hp=>(by cases hp),hv.2⟩
    |ok p=>
     rw[hc]at hv cF;exact⟨p.1,.ok p,hv.1,cF,fun q hq=>by injection hq with hq;rw[←hq],hv.2⟩
   rcases C3 with h2|h3
   ·refine bT ?_;refine cH ?_;refine aP ?_;refine ai _ (aB rfl (ak.cell iz (by rfl))) ?_;refine ye ?_;refine aP ?_;refine cH ?_;refine aP ?_;refine oC (MX pJ jW) ?_;rintro r w6⟨hv,aD⟩;obtain⟨v,X3,rfl,cF,C7,tL⟩:=key w6 r hv aD;have n7:=pJ.pB jW aD;have iK:=aD.af iz (by simp;omega);have uN:=aD.af tM (by simp;omega);refine aP ?_;refine aj (aH [.int .i64 ((v:Nat):Int)] rfl oH iK (by simp[xC]) (by simp;rfl) ?_);intro w7 jr aN j0;have jx:b_ (xC (kk:Nat) 0 n (.slice none 0 0)) 1 [.int .i64 ((v:Nat):Int)]=xC (kk:Nat) (v:Nat) n (.slice none 0 0):=rfl;rw[jx]at j0;refine aP ?_;refine nS _ _ ⟨X3,v,cF,C7,fun h0=>by omega,tL.keep aN (by simp;omega),j0,aN.af uN (by simp;omega),?_,?_,?_,rfl,rfl,rfl,rfl,trivial⟩
    ·obtain⟨B1,gx⟩:=n7.tok;obtain⟨B2,mE⟩:=n7.var;exact⟨⟨B1,gx.keep aN (by intro k aK;simp;exact fun e=>fQ gx iK (by decide) k aK e.symm)⟩,⟨B2,mE.keep aN (by intro k aK;simp;exact fun e=>fQ mE iK (by decide) k aK e.symm)⟩,n7.len,n7.vk,n7.bI⟩
    ·exact(cK.tr aD).aO aN (by omega)
    ·have:=aD.size;have:=aN.size;omega
   ·refine bT ?_;refine cH ?_;refine aP ?_;refine ai _ (aB rfl (ak.cell iz (by rfl))) ?_;refine aL ?_;refine aP ?_;refine ai _ (aB rfl (ak.cell iz (by rfl))) ?_;refine ye ?_;refine aP ?_;refine cH ?_;refine aP ?_;refine oC (MX pJ jW) ?_;rintro r w6⟨hv,aD⟩;obtain⟨v,X3,rfl,cF,C7,tL⟩:=key w6 r hv aD;have n7:=pJ.pB jW aD;have iK:=aD.af iz (by simp;omega);have uN:=aD.af tM (by simp;omega);refine aP ?_;refine aj (aH [.int .i64 ((v:Nat):Int)] rfl oH iK (by simp[xC]) (by simp;rfl) ?_);intro w7 jr aN j0;have jx:b_ (xC (kk:Nat) 0 n (.slice none 0 0)) 1 [.int .i64 ((v:Nat):Int)]=xC (kk:Nat) (v:Nat) n (.slice none 0 0):=rfl;rw[jx]at j0;refine aP ?_;refine nS _ _ ⟨X3,v,cF,C7,fun h0=>by omega,tL.keep aN (by simp;omega),j0,aN.af uN (by simp;omega),?_,?_,?_,rfl,rfl,rfl,rfl,trivial⟩
    ·obtain⟨B1,gx⟩:=n7.tok;obtain⟨B2,mE⟩:=n7.var;exact⟨⟨B1,gx.keep aN (by intro k aK;simp;exact fun e=>fQ gx iK (by decide) k aK e.symm)⟩,⟨B2,mE.keep aN (by intro k aK;simp;exact fun e=>fQ mE iK (by decide) k aK e.symm)⟩,n7.len,n7.vk,n7.bI⟩
    ·exact(cK.tr aD).aO aN (by omega)
    ·have:=aD.size;have:=aN.size;omega
  ·refine bT ?_;refine cH ?_;refine aP ?_;refine ai _ (aB rfl (ak.cell iz (by rfl))) ?_;refine aL ?_;refine aP ?_;refine ai _ (aB rfl (ak.cell iz (by rfl))) ?_;refine aL ?_;refine aP ?_;refine nS _ _ ⟨aF X2 fun p=>.ok (0,p.2),0,?_,?_,?_,?_,iz,tM,pJ,cK,aoy,rfl,rfl,rfl,rfl,trivial⟩
   ·rw[bR];cases X2 with
    |error e=>rfl
    |ok p=>
     have:=iZ p rfl;subst this;show uc ts fin vs one kk p.1 p.2=_;unfold uc;rw[if_neg C3];rfl
   ·intro p hp;obtain⟨a,_,ha⟩:=cM hp;injection ha with ha;rw[←ha]
   ·intro h0;obtain⟨e,he⟩:=ame h0;exact⟨e,by rw[he];rfl⟩
   ·have:eQ (aF X2 fun p=>.ok ((0:Nat),p.2))=eQ X2:=by
     unfold eQ;cases X2<;>rfl
    rw[this];exact jW
 rintro σ' w6⟨X3,v,cF,C7,amf,tL,iK,uN,n7,fy,QT,bH⟩;refine bj bH ?_;refine bT ?_;obtain⟨parts,Kq⟩:∃parts,parts=(partsOf ((kk:Nat):Int)).toNat:=⟨_,rfl⟩;have gT:parts≤2:=by
  by_cases h0:kk=0
  ·rw[Kq,h0];decide
  ·obtain⟨h1,h8,_⟩:=zm h0;have:=To kk h1 h8;omega
 refine fx (fun σ' w'=>∃(X4:Except bp (List ET×Nat)) (sl:Value),bq=aF X4 (fun p=>qU ts fin kk n v p.1 p.2)∧sl.oneCell'=true∧(∀p,X4=.ok p→nX w' B sl p.1)∧Rs w' b lv vv fin (eQ X4)∧
  ak w' b5 (xC (kk:Nat) (v:Nat) n sl) 141∧ak w' b4 [.int .i64 0,.int .i64 0,.int .i64 0,.slice none 0 0] 141∧Cx w' lv vv ts vs∧ae [b] w w'∧B≤w'.heap.size∧
  Sub [(0,.pointer (some ⟨b,0,none⟩)),(4,.pointer (some ⟨b4,0,none⟩)),(5,.pointer (some ⟨b5,0,none⟩))] σ') ?_ ?_
 rotate_left
 ·intro B6;refine bT ?_;refine cH ?_;refine aP ?_;refine pc ?_;refine cP (fun m σ w'=>∃(k:Nat) (X:Except bp Nat) (l:List ET) (sl:Value),k≤3∧m=3-k∧sl.oneCell'=true∧σ=[(0,.pointer (some ⟨b,0,none⟩)),(1,.int .i64 (deep:Nat)),(4,.pointer (some ⟨b4,0,none⟩)),(5,.pointer (some ⟨b5,0,none⟩)),(6,.int .i64 (k:Nat))]∧
   bq=aF X (fun i=>aF (kI one (parts-k) i) fun(r,j)=>qU ts fin kk n v (l++r) j)∧(eV X=true→l.length=k∧k≤parts∧kk≠0∧nX w' B sl l)∧Rs w' b lv vv fin X∧
   ak w' b5 (xC (kk:Nat) (v:Nat) n sl) 141∧ak w' b4 [.int .i64 0,.int .i64 0,.int .i64 0,.slice none 0 0] 141∧Cx w' lv vv ts vs∧ae [b] w w'∧B≤w'.heap.size) 3 _ ?_
   ⟨0,eQ X3,[],.slice none 0 0,by omega,by omega,rfl,rfl,?_,?_,tL,iK,uN,n7,fy,QT⟩ ?_
  ·exact⟨rfl,rfl,rfl,rfl,rfl,trivial⟩
  ·rw[cF,Kq];cases X3 with
   |error e=>rfl
   |ok p=>
    have:=C7 p rfl;subst this;rfl
  ·intro cT;refine⟨rfl,Nat.zero_le _,?_,nX.nil _ _⟩;intro h0;obtain⟨e,he⟩:=amf h0;rw[he]at cT;cases cT
  rintro m σ w7 nj⟨k,X,l,sl,ar3,rfl,mh,rfl,nt,Ed,xI,j0,vU,yI,lF,LC⟩;refine au ?_;refine ai _ (aB rfl (ak.cell j0 (by rfl))) ?_;refine oC (Uf ((kk:Nat):Int) w7) ?_;rintro r w8⟨rfl,rfl⟩;by_cases az:(k:Int)<partsOf ((kk:Nat):Int)
  ·have aaI:k<parts:=by omega
   refine ye ?_;refine oC (ml xI) ?_;rintro r w9⟨rfl,rfl⟩;cases X with
   |error e=>
    unfold eV;refine aP ?_;refine B6 _ _ ⟨.error e,sl,nt,mh,fun p hp=>(by cases hp),xI,j0,vU,yI,lF,LC,rfl,rfl,rfl,trivial⟩
   | ok j=>
    obtain⟨ID,Fe,ED,bN⟩:=Ed rfl;obtain⟨h1,h8,uI,_⟩:=zm ED;unfold eV;refine aP ?_;refine bT ?_;refine pc ?_;have bz:ae [] w9 w9.drew:=(ae.refl _ _).drew;refine bC (fun w'=>True∧ak w' b5 (xC (kk:Nat) (v:Nat) n sl) 141) [9] bE ?_;have rE:=bz.af j0 (by simp);have hS:True∧ak w9.drew b5 (xC (kk:Nat) (v:Nat) n sl) 141:=⟨trivial,rE⟩;refine dp 0 ?_;refine dp 1 ?_;refine dp 2 ?_;refine dp 3 ?_;refine uT 4 (((deep+1:Nat):Int)) rfl (by decide+kernel) rfl rfl rfl rfl rfl (by simp only[kK];omega) ?_;refine dC 5 (ih (f-1) (by omega) (deep+1) j (by omega) (yI.aA bz) (xI.keep bz (by simp))) ?_;rintro r bM⟨hex,bV⟩;have yR:Rs w9.drew b lv vv fin (.ok j):=xI.keep bz (by simp);have Hj:=bV.af rE (by simp;omega);have Ae:=bV.af (bz.af vU (by simp)) (by simp;omega);have amg:=(yI.aA bz).pB yR bV;have yk:=(bN.keep bz (by simp)).keep bV (by simp;omega);have qT:=(lF.dt bz).tr bV;refine⟨fun _=>⟨trivial,Hj⟩,?_⟩;obtain⟨cs,rfl,kR,my⟩:∃cs:List Value,r=.agg cs.toArray∧cs.length=4∧∀u∈cs,u.oneCell'=true:=by
     cases hc:gM ts fin vs (f-1) j with
     |error e=>rw[hc]at hex;obtain⟨⟨cs,h1,h2,h3⟩,_⟩:=hex;exact⟨cs,h1,h2,h3⟩
     |ok p=>obtain⟨t,j'⟩:=p;rw[hc]at hex;obtain⟨⟨cs,F,h1,h2,_⟩,_⟩:=hex;exact⟨cs,h1,h2.length,h2.one⟩
    obtain⟨c0,c1,c2,c3,rfl⟩:=jl kR;refine a8 6 rfl (eE _ _ rfl rfl (VW c0 c1 c2 c3) ?_);intro dB g11 aaJ u4 b8 ue;have Hk:=b8.af Hj (by simp);have QU:=b8.af Ae (by simp);have GL:=amg.aA b8;have Bs:=yk.keep b8 (by simp);have BN:=qT.dt b8;refine⟨fun _=>⟨trivial,Hk⟩,?_⟩;obtain⟨xs,qP⟩:=Bs.own;have xd:B≤dB.heap.size:=by have:=bV.size;have:=b8.size;have:w9.drew.heap.size=w9.heap.size:=rfl;omega
    refine a8 7 rfl (ja B 141 4 48 xs [c0,c1,c2,c3] rfl rfl rfl (by decide+kernel) qP (ue.range (by rfl)) rfl my (by decide) (by simp only[maxLen];omega) (by omega) xd ?_);intro g12 py fj DV pA;have zO:ae [b] w fj:=by
     rcases pA with⟨h1,_,h2⟩|⟨_,h2,_⟩
     ·exact BN.aO h2 (by have:=(qP.lt g12 h1).1;omega)
     ·exact BN.dt h2
    have bS:∀c,c<B→sl.ownBlock≠some c:=fun c hc e=>by have:=(qP.lt c e).1;omega
    have Ci:=qL Hk (fun k hk e=>bS b5 vP (e▸hk)) pA;have QV:=qL QU (fun k hk e=>bS b4 tG (e▸hk)) pA;refine⟨fun _=>⟨trivial,Ci⟩,?_⟩;refine tk 8 ?_;refine a8 9 rfl (aH [.slice (some ⟨g12,0,none⟩) (l.length+1) py] rfl UZ Ci (by simp[xC]) (by simp;rfl) ?_);intro iW Ca bZ EA;have jx:b_ (xC (kk:Nat) (v:Nat) n sl) 3 [.slice (some ⟨g12,0,none⟩) (l.length+1) py]=xC (kk:Nat) (v:Nat) n (.slice (some ⟨g12,0,none⟩) (l.length+1) py):=rfl;rw[jx]at EA;refine⟨fun h=>absurd (by simp) h,?_⟩;refine bm ?_;have amh:∃fp,(∀c∈fp,c=g12)∧(∀c∈fp,B≤c)∧ae fp dB fj:=by
     rcases pA with⟨h1,_,h2⟩|⟨_,h2,_⟩
     ·exact⟨[g12],by simp,by simp;exact(qP.lt g12 h1).1,h2⟩
     ·exact⟨[],by simp,by simp,h2⟩
    obtain⟨fp,ar4,aoz,di⟩:=amh;have Zu:∀Y,Rs bM b lv vv fin Y→Rs iW b lv vv fin Y:=fun Y hY=>
     ((hY.keep b8 (by simp)).keep di (fun hm=>by have:=aoz b hm;omega)).keep bZ (by simp;omega)
    have Zv:Cx iW lv vv ts vs:=by
     obtain⟨B1,gx⟩:=GL.tok;obtain⟨B2,mE⟩:=GL.var;have hg:∀{e sz nn:Nat} {vv:Value} {ys:List Value} {B':Nat},e≠141→Own dB B' e sz vv nn ys→Own iW B' e sz vv nn ys:=by
      intro e sz nn vv ys B' LL ho;have sg:Own fj B' e sz vv nn ys:=by
       rcases pA with⟨h1,_,h2⟩|⟨_,h2,_⟩
       ·refine ho.keep h2 (fun k hk=>?_);simp;intro e';subst e';rcases qP.2 with⟨hv,_⟩|⟨g',c',LB,hv,_,vR,_⟩
        ·rw[hv]at h1;simp[Value.ownBlock]at h1
        ·rw[hv]at h1;simp[Value.ownBlock]at h1;subst h1;exact fQ ho vR (fun IS=>LL IS.symm) _ hk rfl
       ·exact ho.keep h2 (by simp)
      exact sg.keep bZ (fun k hk=>by simp;exact fun e'=>fQ sg Ci (fun IS=>LL IS.symm) k hk e'.symm)
     exact⟨⟨B1,hg (by decide) gx⟩,⟨B2,hg (by decide) mE⟩,GL.len,GL.vk,GL.bI⟩
    have LD:=bZ.af QV (by simp;omega);have yr:ae [b] w iW:=zO.aO bZ (by omega);have EB:B≤iW.heap.size:=by have:=di.size;have:=bZ.size;omega
    refine nM ((k+1:Nat):Int) ?_;refine au ?_;have zI:parts-k=(parts-(k+1))+1:=by omega
    cases hc:gM ts fin vs (f-1) j with
    | error e=>
     rw[hc]at hex;obtain⟨_,qD⟩:=hex;refine bj ?_ (nj _ _ _ ?_ ⟨k+1,.error e,l,.slice (some ⟨g12,0,none⟩) (l.length+1) py,by omega,rfl,rfl,rfl,?_,fun h=>(by cases h),Zu _ qD,EA,LD,Zv,yr,EB⟩)
     ·exact⟨rfl,rfl,rfl,rfl,rfl,trivial⟩
     ·omega
     ·rw[nt];show aF (kI one (parts-k) j) _=_;rw[zI,kI,iQ,hc];rfl
    | ok p=>
     obtain⟨t,j'⟩:=p;rw[hc]at hex;obtain⟨⟨ur,F',mi,iX,gU⟩,qD⟩:=hex;have zn:ur=[c0,c1,c2,c3]:=by
      injection mi with mi;have:=congrArg Array.toList mi;simpa using this.symm
     subst zn;have uU:nX fj B (.slice (some ⟨g12,0,none⟩) (l.length+1) py) (l++[t]):=by
      refine Bs.app (iX.keep b8 (fun c cG=>⟨(gU c cG).2,by simp⟩)) (fun c cG=>?_) (fun ys vt=>?_) pA
      ·have h3:=gU c cG;have bw:w9.drew.heap.size=w9.heap.size:=rfl;refine⟨by omega,by have:=b8.size;omega,fun e'=>?_⟩;have:=(bN.keep bz (by simp)).own;obtain⟨zs,hz⟩:=this;have:=(hz.lt c e').2;omega
      ·have:ys=xs:=vt.eq qP;subst this;exact DV
     have uV:=uU.keep bZ (by simp;omega);refine bj ?_ (nj _ _ _ ?_ ⟨k+1,.ok j',l++[t],.slice (some ⟨g12,0,none⟩) (l.length+1) py,by omega,rfl,rfl,rfl,?_,fun _=>⟨by simp[ID],aaI,ED,uV⟩,Zu _ qD,EA,LD,Zv,yr,EB⟩)
     ·exact⟨rfl,rfl,rfl,rfl,rfl,trivial⟩
     ·omega
     ·rw[nt];show aF (kI one (parts-k) j) _=aF (kI one (parts-(k+1)) j') _;rw[zI,kI,iQ,hc];show aF (aF (kI (gM ts fin vs (f-1)) (parts-(k+1)) j') _) _=_;cases kI (gM ts fin vs (f-1)) (parts-(k+1)) j' with
      |error e=>rfl
      |ok q=>
       obtain⟨r',k'⟩:=q;show qU ts fin kk n v (l++t::r') k'=qU ts fin kk n v (l++[t]++r') k';rw[List.append_assoc];rfl
  ·refine aL ?_;refine aP ?_;refine B6 _ _ ⟨aF X fun i=>.ok (l,i),sl,?_,mh,?_,?_,j0,vU,yI,lF,LC,rfl,rfl,rfl,trivial⟩
   ·rw[nt];cases X with
    |error e=>rfl
    |ok j=>
     have e0:parts-k=0:=by omega
     rw[e0];show qU ts fin kk n v (l++[]) j=qU ts fin kk n v l j;rw[List.append_nil]
   ·intro p hp;obtain⟨a,IT,Fw⟩:=cM hp;injection Fw with Fw;subst Fw;exact(Ed (by rw[IT];rfl)).2.2.2
   ·have:eQ (aF X fun i=>.ok (l,i))=X:=by
     unfold eQ;cases X<;>rfl
    rw[this];exact xI
 rintro σ' w7⟨X4,sl,jw,mh,wG,xI,j0,vU,yI,lF,LC,bH⟩;refine bj bH ?_;refine oC (DD yI xI [41]) ?_;rintro r w8⟨Im,aS⟩;have mL:=aS.af j0 (by simp;omega);have lN:=aS.af vU (by simp;omega);refine au ?_;refine ai _ (bF (xC (kk:Nat) (v:Nat) n sl) rfl (mL.range (by rfl))) ?_;refine aj (aH (xC (kk:Nat) (v:Nat) n sl) rfl zu lN (by simp[xC]) (DU mh) ?_);intro w9 n_ bg rH;rw[bs (by rfl)]at rH;refine au ?_;have yR:=Im.keep bg (by simp;omega);have gY:ae [b] w w9:=(lF.tr aS).aO bg (by omega);refine df func121 (.inr (.inr (.inl ⟨_,_,_,rfl,rfl,cV hT rH rfl⟩))) ⟨?_,gY⟩;rw[jw];cases X4 with
 |error e=>exact⟨⟨_,rfl,rfl,DU mh⟩,yR⟩
 | ok p=>
  obtain⟨l,i4⟩:=p;have yJ:Rs w9 b lv vv fin (eu ts fin [41] i4):=yR;show aa1 w w9 b lv vv fin _ (qU ts fin kk n v l i4);unfold qU;cases hc:eu ts fin [41] i4 with
  |error e=>rw[hc]at yJ;exact⟨⟨_,rfl,rfl,DU mh⟩,yJ⟩
  |ok i5=>
   rw[hc]at yJ;obtain⟨F,og,dd⟩:=(((wG _ rfl).keep aS (by simp;omega)).keep bg (by simp;omega)).exprs;exact⟨⟨xC (kk:Nat) (v:Nat) n sl,F,rfl,dY.of og,fun c cG=>by have:=dd c cG;omega⟩,yJ⟩
def Q7(w0 w:World)(b:Nat)(lv vv:Value)(fin:Nat)(r:Value):Except bp (ST×Nat)→Prop
 |.ok (t,j)=>(∃(cs:List Value) (F:Nat→Prop),r=.agg cs.toArray∧iO F w cs t∧∀c,F c→w0.heap.size≤c∧c<w.heap.size)∧Rs w b lv vv fin (.ok j)
 |.error e=>(∃cs:List Value,r=.agg cs.toArray∧cs.length=12∧∀u∈cs,u.oneCell'=true)∧Rs w b lv vv fin (.error e)
def aa2(w0 w:World)(b:Nat)(lv vv:Value)(fin:Nat)(r:Value):Except bp (List ST×Nat)→Prop
 |.ok (l,j)=>(∃F:Nat→Prop,eM F w r l∧∀c,F c→w0.heap.size≤c∧c<w.heap.size)∧Rs w b lv vv fin (.ok j)
 |.error e=>(∃a n c,r=.slice a n c)∧Rs w b lv vv fin (.error e)
theorem Y0{w w':World}{B g ln m:Nat}{lv vv sl:Value}{ts:List Tok}{vs:List aJ}{xs:List Value}(hx:Cx w lv vv ts vs)(bW:Own w B 143 12 sl ln xs) (gy:(sl.ownBlock=some g∧ln+m≤sK sl∧ae [g] w w')∨(g=w.heap.size∧ae [] w w'∧w'.heap.size=w.heap.size+1)):Cx w' lv vv ts vs:=by
 obtain⟨B1,gx⟩:=hx.tok;obtain⟨B2,mE⟩:=hx.var;have hg:∀{e sz nn:Nat} {vv:Value} {ys:List Value} {B':Nat},e≠143→Own w B' e sz vv nn ys→Own w' B' e sz vv nn ys:=by
  intro e sz nn vv ys B' LL ho;rcases gy with⟨h1,_,h2⟩|⟨_,h2,_⟩
  ·refine ho.keep h2 (fun k hk=>?_);simp;intro e';subst e';rcases bW.2 with⟨hv,_⟩|⟨g',c',LB,hv,_,vR,_⟩
   ·rw[hv]at h1;simp[Value.ownBlock]at h1
   ·rw[hv]at h1;simp[Value.ownBlock]at h1;subst h1;exact fQ ho vR (fun IS=>LL IS.symm) _ hk rfl
  ·exact ho.keep h2 (by simp)
 exact⟨⟨B1,hg (by decide) gx⟩,⟨B2,hg (by decide) mE⟩,hx.len,hx.vk,hx.bI⟩
theorem V3{b fin:Nat}{lv vv:Value}{ts:List Tok}{vs:List aJ}{one:Nat→Except bp (ST×Nat)}{deep:Nat}(iQ:∀i r,one i=.ok r→i<r.2∧r.2≤ts.length) (aZ:∀(i:Nat) (w:World),Cx w lv vv ts vs→Rs w b lv vv fin (.ok i)→aC prog 83 [.pointer (some ⟨b,0,none⟩),.int .i64 (deep:Nat)] w fun r w'=>Q7 w w' b lv vv fin r (one i)∧ae [b] w w') {x:Except bp Nat}{w:World}(hx:Cx w lv vv ts vs)(h:Rs w b lv vv fin x):aC prog 122 [.pointer (some ⟨b,0,none⟩),.int .i64 (deep:Nat)] w fun r w'=>aa2 w w' b lv vv fin r (aF x (jC ts fin one))∧ae [b] w w':=by
 have o6:=h.lt;have hlen:=hx.len;refine aG 24 func122 ?_;refine oC (DD hx h [40]) ?_;rintro r w1⟨fh,ah⟩;have q7:=hx.pB h ah;obtain⟨bq,fA⟩:∃bq,bq=aF x (jC ts fin one):=⟨_,rfl⟩;rw[←fA];have g_:bq=aF (aF x (eu ts fin [40])) (fun i=>aF (cQ (fun j=>eg ts j [41]) one (ts.length+1-i) i) fun(r,k)=>aF (eu ts fin [41] k) fun m=>.ok ([]++r,m)):=by
  rw[fA];cases x<;>rfl
 obtain⟨B,hB⟩:∃B,B=w.heap.size:=⟨_,rfl⟩;have aoA:∀i,aF x (eu ts fin [40])=.ok i→i≤ts.length:=by
  intro i hi;obtain⟨a,_,ha⟩:=cM hi;have:=sD ha;omega
 refine aP ?_;refine bT ?_;refine fx (fun σ' w'=>∃(X:Except bp (List ST×Nat)) (sl:Value),bq=aF X (fun p=>aF (eu ts fin [41] p.2) fun m=>.ok (p.1,m))∧(∃a n c,sl=.slice a n c)∧(∀p,X=.ok p→lG w' B sl p.1)∧Rs w' b lv vv fin (eQ X)∧Cx w' lv vv ts vs∧ae [b] w w'∧
  Sub [(0,.pointer (some ⟨b,0,none⟩)),(5,sl)] σ') ?_ ?_
 rotate_left
 ·intro dy;refine pc ?_;refine cP (fun m σ w'=>∃(X:Except bp Nat) (l:List ST) (sl:Value),m=(match X with|.ok i=>ts.length+1-i|.error _=>0)∧(∃a n c,sl=.slice a n c)∧σ=[(0,.pointer (some ⟨b,0,none⟩)),(1,.int .i64 (deep:Nat)),(5,sl)]∧
   bq=aF X (fun i=>aF (cQ (fun j=>eg ts j [41]) one (ts.length+1-i) i) fun(r,k)=>aF (eu ts fin [41] k) fun m=>.ok (l++r,m))∧(∀i,X=.ok i→l.length≤i∧i≤ts.length∧lG w' B sl l)∧Rs w' b lv vv fin X∧Cx w' lv vv ts vs∧ae [b] w w')
   _ _ ?_ ⟨aF x (eu ts fin [40]),[],.slice none 0 0,rfl,⟨_,_,_,rfl⟩,rfl,g_,fun i hi=>⟨Nat.zero_le _,aoA i hi,lG.nil _ _⟩,fh,q7,ah⟩ ?_
  ·exact⟨rfl,rfl,rfl,trivial⟩
  rintro m σ w2 ih⟨X,l,sl,rfl,mh,rfl,bR,Ed,dO,pI,an⟩;refine oC (ml dO) ?_;rintro r w3⟨rfl,rfl⟩;cases X with
  |error e=>
   unfold eV;refine aP ?_;exact dy _ _ ⟨.error e,sl,bR,mh,fun p hp=>(by cases hp),dO,pI,an,rfl,rfl,trivial⟩
  | ok i=>
   obtain⟨hli,fF,bN⟩:=Ed i rfl;unfold eV;refine oC (Gp pI dO [41]) ?_;rintro r w4⟨rfl,ax⟩;have jy:=dO.keep ax (by simp);have nZ:=pI.aA ax;have wG:=bN.keep ax (by simp);have dJ:=an.dt ax;show Pl _ _ _ _ _ _ _ (put _ _ (.bool (eg ts i [41]))) _;obtain⟨q,hq⟩:∃q,q=eg ts i [41]:=⟨_,rfl⟩;rw[←hq];have hu:cQ (fun j=>eg ts j [41]) one (ts.length+1-i) i=if eg ts i [41]then .ok ([],i)else aF (one i) fun(t,j)=>aF (cQ (fun j=>eg ts j [41]) one (ts.length-i) j) fun(r,k)=>.ok (t::r,k):=by
    have e:ts.length+1-i=(ts.length-i)+1:=by omega
    rw[e];rfl
   cases q with
   | true=>
    refine aP ?_;refine dy _ _ ⟨.ok (l,i),sl,?_,mh,fun p hp=>?_,jy,nZ,dJ,rfl,rfl,trivial⟩
    ·rw[bR];show aF (cQ _ one (ts.length+1-i) i) _=_;rw[hu,←hq];show aF (eu ts fin [41] i) _=aF (eu ts fin [41] i) _;simp only[List.append_nil]
    ·injection hp with hp;subst hp;exact wG
   | false=>
    refine oC (aZ i _ nZ jy) ?_;rintro r w5⟨hex,aE⟩;have pJ:=nZ.pB jy aE;have zM:=wG.keep aE (by simp;omega);have cK:=dJ.tr aE;obtain⟨cs,rfl,kR,my⟩:∃cs:List Value,r=.agg cs.toArray∧cs.length=12∧∀u∈cs,u.oneCell'=true:=by
     cases hc:one i with
     |error e=>rw[hc]at hex;obtain⟨⟨cs,h1,h2,h3⟩,_⟩:=hex;exact⟨cs,h1,h2,h3⟩
     |ok p=>obtain⟨t,j'⟩:=p;rw[hc]at hex;obtain⟨⟨cs,F,h1,h2,_⟩,_⟩:=hex;exact⟨cs,h1,h2.length,h2.one⟩
    obtain⟨c0,c1,c2,c3,c4,c5,c6,c7,c8,c9,xM,xN,rfl⟩:=Ph kR;refine aj (eE _ _ rfl rfl (Ny c0 c1 c2 c3 c4 c5 c6 c7 c8 c9 xM xN) ?_);intro w6 g6 yY iI aD dM;have n7:=pJ.aA aD;have BK:=zM.keep aD (by simp);have fy:=cK.dt aD;obtain⟨xs,mU⟩:=BK.own;have IJ:B≤w6.heap.size:=by have:=fy.size;omega
    refine aj (ja B 143 12 160 xs [c0,c1,c2,c3,c4,c5,c6,c7,c8,c9,xM,xN] rfl rfl rfl (by decide+kernel) mU (dM.range (by rfl)) rfl my (by decide) (by simp only[maxLen];omega) (by omega) IJ ?_);intro g7 B7 w7 GI u9;have lF:ae [b] w w7:=by
     rcases u9 with⟨h1,_,h2⟩|⟨_,h2,_⟩
     ·exact fy.aO h2 (by have:=(mU.lt g7 h1).1;omega)
     ·exact fy.dt h2
    have yI:=Y0 n7 mU u9;have aa3:∀Y,Rs w5 b lv vv fin Y→Rs w7 b lv vv fin Y:=fun Y hY=>by
     have h6:=hY.keep aD (by simp);rcases u9 with⟨h1,_,h2⟩|⟨_,h2,_⟩
     ·exact h6.keep h2 (by simp;have:=(mU.lt g7 h1).1;omega)
     ·exact h6.keep h2 (by simp)
    refine au ?_;cases hc:one i with
    | error e=>
     rw[hc]at hex;obtain⟨_,qD⟩:=hex;refine bj ?_ (ih _ _ _ ?_ ⟨.error e,l,.slice (some ⟨g7,0,none⟩) (l.length+1) B7,rfl,⟨_,_,_,rfl⟩,rfl,?_,fun i hi=>(by cases hi),aa3 _ qD,yI,lF⟩)
     ·exact⟨rfl,rfl,rfl,trivial⟩
     ·show 0<ts.length+1-i;omega
     ·rw[bR];show aF (cQ _ one (ts.length+1-i) i) _=_;rw[hu,←hq,hc];rfl
    | ok p=>
     obtain⟨t,j'⟩:=p;have vm:=iQ i _ hc
     dsimp only at vm
     rw[hc]at hex;obtain⟨⟨ur,F',mi,iX,gU⟩,qD⟩:=hex;have zn:ur=[c0,c1,c2,c3,c4,c5,c6,c7,c8,c9,xM,xN]:=by
      injection mi with mi;have:=congrArg Array.toList mi;simpa using this.symm
     subst zn;have rR:lG w7 B (.slice (some ⟨g7,0,none⟩) (l.length+1) B7) (l++[t]):=by
      refine BK.app (iX.keep aD (fun c cG=>⟨(gU c cG).2,by simp⟩)) (fun c cG=>?_) (fun ys vt=>?_) u9
      ·have h3:=gU c cG;refine⟨by have:=dJ.size;omega,by have:=aD.size;omega,fun e'=>?_⟩;obtain⟨zs,hz⟩:=wG.own;have:=(hz.lt c e').2;omega
      ·have:ys=xs:=vt.eq mU;subst this;exact GI
     refine bj ?_ (ih _ _ _ ?_ ⟨.ok j',l++[t],.slice (some ⟨g7,0,none⟩) (l.length+1) B7,rfl,⟨_,_,_,rfl⟩,rfl,?_,fun i' kW=>?_,aa3 _ qD,yI,lF⟩)
     ·exact⟨rfl,rfl,rfl,trivial⟩
     ·show ts.length+1-j'<ts.length+1-i;omega
     ·rw[bR];show aF (cQ _ one (ts.length+1-i) i) _=aF (cQ _ one (ts.length+1-j') j') _;rw[hu,←hq,hc];show aF (aF (cQ _ one (ts.length-i) j') _) _=_;rw[Dg iQ (ts.length-i) (ts.length+1-j') j' vm.2 (by omega) (by omega)];cases cQ (fun j=>eg ts j [41]) one (ts.length+1-j') j' with
      |error e=>rfl
      |ok q=>
       obtain⟨r',k'⟩:=q;show aF (eu ts fin [41] k') _=aF (eu ts fin [41] k') _;simp only[List.append_assoc,List.singleton_append]
     ·injection kW with kW;subst kW;exact⟨by simp;omega,vm.2,rR⟩
 rintro σ' w2⟨X,sl,bR,⟨a,nn,cc,rfl⟩,bN,dO,pI,an,bH⟩;refine bj bH ?_;refine oC (DD pI dO [41]) ?_;rintro r w3⟨uK,aw⟩;refine au ?_;refine ay func122 rfl ⟨?_,an.tr aw⟩;rw[bR];cases X with
 |error e=>exact⟨⟨_,_,_,rfl⟩,uK⟩
 | ok p=>
  obtain⟨l,k⟩:=p;have LM:Rs w3 b lv vv fin (eu ts fin [41] k):=uK;show aa2 _ _ _ _ _ _ _ (aF (eu ts fin [41] k) _);cases hc:eu ts fin [41] k with
  |error e=>rw[hc]at LM;exact⟨⟨_,_,_,rfl⟩,LM⟩
  |ok m=>
   rw[hc]at LM;obtain⟨F,og,dd⟩:=((bN _ rfl).keep aw (by simp;omega)).stmts;exact⟨⟨F,og,fun c cG=>by have:=dd c cG;omega⟩,LM⟩
theorem ahb(k:Nat)(w:World)(h1:1≤k)(h8:k≤7):aC prog 118 [.int .i64 (k:Nat)] w fun r w'=>r=.string (str (ub k))∧ae [] w w':=by
 have:=ahc (k:Nat) w;unfold wS at this;rw[if_pos (by omega),Int.toNat_natCast]at this;exact this
theorem ahd{b fin:Nat}{lv vv:Value}{ts:List Tok}{vs:List aJ}:∀(f deep i:Nat) {w:World},deep+f=13→Cx w lv vv ts vs→Rs w b lv vv fin (.ok i)→aC prog 83 [.pointer (some ⟨b,0,none⟩),.int .i64 (deep:Nat)] w fun r w'=>Q7 w w' b lv vv fin r (ie ts fin vs f i)∧ae [b] w w':=by
 intro f;induction f using Nat.strongRecOn with
 |_ f ih=>
 intro deep i w ff hx h;have o6:=h.lt;refine aG 59 func83 ?_;refine au ?_;refine aj (bO _ rfl J9 ?_);intro w1 b4 Ey bt ah gl;have fh:=h.keep ah (by simp);have q7:=hx.aA ah;refine oC (U5 (g:=118) (of:=ub) (most:=7) q7 fh deep (by omega) (by decide) (by decide+kernel) ahb) ?_;rintro r w2⟨q8,an⟩;rw[Xg ts fin vs ff i];obtain⟨X1,cm⟩:∃X1,X1=aF (if 12<deep then .error (dG ts fin 4 i)else .ok i) (lR ts fin ub 7):=⟨_,rfl⟩;rw[←cm]at q8⊢;have pI:=q7.pB fh an;have oB:=an.af gl (by simp;omega);have br:ae [b] w w2:=(ae.bG ah).tr an;have Ik:w1.heap.size≤w2.heap.size:=an.size;obtain⟨kk,rfl,jQ,dO,zm⟩:∃kk:Nat,r=.int .i64 (kk:Nat)∧(kk=0→∃e,X1=.error e)∧Rs w2 b lv vv fin (eQ X1)∧(kk≠0→1≤f∧∃i1,X1=.ok (kk,i1)):=by
  cases hc:X1 with
  |error e=>
   rw[hc]at q8;exact⟨0,q8.1,fun _=>⟨e,rfl⟩,q8.2,fun h=>absurd rfl h⟩
  | ok p=>
   obtain⟨k,i1⟩:=p;rw[hc]at q8;have hd:¬12<deep:=by
    intro hd;rw[if_pos hd]at cm;rw[hc]at cm;cases cm
   rw[if_neg hd,hc]at cm;have hb:=Bb cm.symm;refine⟨k,q8.1,fun h0=>by have:=hb.2.2.1;dsimp only at this;omega,q8.2,fun _=>⟨by omega,i1,rfl⟩⟩
 refine ai _ (bL _ rfl rfl (Xh (kk:Nat)) w2) ?_;refine aj (bO _ rfl J9 ?_);intro w3 b5 Ad cw aw fe;refine aj (aH (ep (kk:Nat) 0 zx zx (.slice none 0 0) (.slice none 0 0)) rfl J_ fe (Nat.le_refl _) (Dm Fm.zero) ?_);intro w4 cz ax hU;rw[bs (by rfl)]at hU;have eA:ae [] w2 w4:=aw.aO ax (by omega);have jy:=dO.keep eA (by simp);have nZ:=pI.aA eA;have rG:=eA.af oB (by simp);have dJ:ae [b] w w4:=br.dt eA;obtain⟨B,hB⟩:∃B,B=w4.heap.size:=⟨_,rfl⟩;have tG:b4<B:=by have:=rG.lt;omega
 have vP:b5<B:=by have:=hU.lt;omega
 have hbB:b<B:=by have:=dJ.size;omega
 have aaF:b4≠b5:=by omega
 have aaG:b≠b4:=by omega
 have aaH:b≠b5:=by omega
 have uD:w.heap.size≤B:=by have:=dJ.size;omega
 have hw5:w.heap.size≤b5:=by have:=br.size;omega
 obtain⟨ex,hex⟩:∃ex,ex=gM ts fin vs (f-1):=⟨_,rfl⟩;obtain⟨one,iQ⟩:∃one,one=ie ts fin vs (f-1):=⟨_,rfl⟩;rw[←hex,←iQ];obtain⟨bq,fA⟩:∃bq,bq=aF X1 (fun(k,i1)=>vV ts fin vs ex one k i1):=⟨_,rfl⟩;rw[←fA];obtain⟨nE,nF,nV,nB,nO⟩:=wk ((kk:Nat):Int);have yK:∀{w5 w6:World} {L:List Value},Cx w5 lv vv ts vs→ak w5 b5 L 143→ae [b5] w5 w6→Cx w6 lv vv ts vs:=by
  intro w5 w6 L hc hz hk;obtain⟨B1,gx⟩:=hc.tok;obtain⟨B2,mE⟩:=hc.var;exact⟨⟨B1,gx.keep hk (by intro k aK;simp;exact fun e=>fQ gx hz (by decide) k aK e.symm)⟩,⟨B2,mE.keep hk (by intro k aK;simp;exact fun e=>fQ mE hz (by decide) k aK e.symm)⟩,hc.len,hc.vk,hc.bI⟩
 have uI:∀Y,X1=.ok Y→1≤f:=by
  intro Y hY;by_cases h0:kk=0
  ·obtain⟨e,he⟩:=jQ h0;rw[hY]at he;cases he
  ·exact(zm h0).1
 --behind begin
 have g_:bq=aF (eQ X1) (fun i1=>vV ts fin vs ex one kk i1):=by
  rw[fA];by_cases h0:kk=0
  ·obtain⟨e,he⟩:=jQ h0;rw[he];rfl
  ·obtain⟨_,i1,hX⟩:=zm h0;rw[hX];rfl
 have aa4:eV (eQ X1)=true→1≤f:=by
  cases hc:X1 with
  |error e=>intro h;cases h
  |ok p=>intro _;exact uI p hc
 have Aw:eV (eQ X1)=true→Gd w4 B fK fK [] [] zx zx (.slice none 0 0) (.slice none 0 0):=fun _=>Gd.zero;generalize eQ X1=XA at*;refine aP ?_;refine bT ?_;refine fx (fun σ' w'=>∃(X:Except bp Nat) (v:Nat) (e g:ET) (lb lo:List ST) (ce cf:List Value) (bv ov:Value),bq=aF X (fun i=>st2 ts fin ex one kk v i)∧(eV X=true→1≤f)∧(eV X=true→Gd w' B e g lb lo ce cf bv ov)∧(e=fK∧g=fK∧lb=[]∧lo=[]∧cf=zx∧bv=.slice none 0 0∧ov=.slice none 0 0)∧Fm ce cf bv ov∧Rs w' b lv vv fin X∧
  ak w' b5 (ep (kk:Nat) (v:Nat) ce cf bv ov) 143∧ak w' b4 xO 143∧Cx w' lv vv ts vs∧ae [b] w w'∧B≤w'.heap.size∧Sub [(0,.pointer (some ⟨b,0,none⟩)),(1,.int .i64 (deep:Nat)),(4,.pointer (some ⟨b4,0,none⟩)),(5,.pointer (some ⟨b5,0,none⟩))] σ') ?_ ?_
 rotate_left
 ·intro dy;refine bT ?_;refine cH ?_;refine aP ?_;refine ai _ (aB rfl (ak.cell hU (by rfl))) ?_;refine oC (rJ ((kk:Nat):Int) 118 w4) ?_;rintro r w5⟨rfl,rfl⟩;rw[nV];obtain⟨q,hq⟩:∃q,q=iA ((kk:Nat):Int):=⟨_,rfl⟩;rw[←hq];cases q with
  | true=>
   refine aP ?_;refine cH ?_;refine aP ?_;refine oC (MX nZ jy) ?_;rintro r w6⟨hv,aD⟩;have n7:=nZ.pB jy aD;have iK:=aD.af hU (by simp;omega);have uN:=aD.af rG (by simp;omega);obtain⟨v,X3,rfl,cF,C7,tL,aa5⟩:∃(v:Nat) (X3:Except bp (Nat×Nat)),r=.int .i64 (v:Nat)∧X3=aF XA (kq ts fin vs)∧(∀p,X3=.ok p→p.1=v)∧Rs w6 b lv vv fin (eQ X3)∧(eV (eQ X3)=true→eV XA=true):=by
    have cT:eV (eQ (aF XA (kq ts fin vs)))=true→eV XA=true:=by
     cases XA with
     |error e=>exact fun h=>h
     |ok i=>exact fun _=>rfl
    cases hc:aF XA (kq ts fin vs)with
    |error e=>
     rw[hc]at hv cT;exact⟨0,.error e,hv.1,rfl,fun p hp=>(by cases hp),hv.2,cT⟩
    |ok p=>
     rw[hc]at hv cT;exact⟨p.1,.ok p,hv.1,rfl,fun q hq=>by injection hq with hq;rw[←hq],hv.2,cT⟩
   refine aP ?_;refine aj (aH [.int .i64 ((v:Nat):Int)] rfl oH iK (by rw[pZ Fm.zero];simp) (by simp;rfl) ?_);intro w7 jr aN j0;rw[aaK]at j0;refine aP ?_;refine dy _ _ ⟨eQ X3,v,fK,fK,[],[],zx,zx,.slice none 0 0,.slice none 0 0,?_,fun h=>aa4 (aa5 h),fun h=>(((Aw (aa5 h)).keep aD (by simp;omega)).keep aN (by simp;omega)),⟨rfl,rfl,rfl,rfl,rfl,rfl,rfl⟩,Fm.zero,tL.keep aN (by simp;omega),j0,aN.af uN (by simp;omega),yK n7 iK aN,(dJ.tr aD).aO aN (by omega),?_,rfl,rfl,rfl,rfl,trivial⟩
   ·rw[g_];have e1:aF XA (fun i1=>vV ts fin vs ex one kk i1)=aF X3 (fun p=>st2 ts fin ex one kk p.1 p.2):=by
     rw[cF];cases XA with
     |error e=>rfl
     |ok i=>
      show vV ts fin vs ex one kk i=aF (kq ts fin vs i) _;unfold vV;rw[if_pos hq.symm]
    rw[e1];cases X3 with
    |error e=>rfl
    |ok p=>
     have:=C7 p rfl;subst this;rfl
   ·have:=aD.size;have:=aN.size;omega
  | false=>
   refine aP ?_;refine dy _ _ ⟨XA,0,fK,fK,[],[],zx,zx,.slice none 0 0,.slice none 0 0,?_,aa4,Aw,⟨rfl,rfl,rfl,rfl,rfl,rfl,rfl⟩,Fm.zero,jy,hU,rG,nZ,dJ,by omega,rfl,rfl,rfl,rfl,trivial⟩;rw[g_];cases XA with
   |error e=>rfl
   |ok i=>
    show vV ts fin vs ex one kk i=_;unfold vV;rw[←hq];rfl
 rintro σ' w5⟨X,v,e,g,lb,lo,ce,cf,bv,ov,ec,r8,eT,⟨rfl,rfl,rfl,rfl,rfl,rfl,rfl⟩,dE,hr,hz,hy,mM,bX,xQ,bH⟩;refine bj bH ?_;refine bT ?_;refine fx (fun σ' w'=>∃(X:Except bp Nat) (v:Nat) (e g:ET) (lb lo:List ST) (ce cf:List Value) (bv ov:Value),bq=aF X (fun i=>vW ts fin ex one kk v e i)∧(eV X=true→1≤f)∧(eV X=true→Gd w' B e g lb lo ce cf bv ov)∧(g=fK∧lb=[]∧lo=[]∧cf=zx∧bv=.slice none 0 0∧ov=.slice none 0 0)∧Fm ce cf bv ov∧Rs w' b lv vv fin X∧
  ak w' b5 (ep (kk:Nat) (v:Nat) ce cf bv ov) 143∧ak w' b4 xO 143∧Cx w' lv vv ts vs∧ae [b] w w'∧B≤w'.heap.size∧Sub [(0,.pointer (some ⟨b,0,none⟩)),(1,.int .i64 (deep:Nat)),(4,.pointer (some ⟨b4,0,none⟩)),(5,.pointer (some ⟨b5,0,none⟩))] σ') ?_ ?_
 rotate_left
 ·intro dy;clear bH;refine bT ?_;refine cH ?_;refine aP ?_;refine ai _ (aB rfl (ak.cell hz (by rfl))) ?_;refine oC (rJ ((kk:Nat):Int) 101 _) ?_;rintro r w6⟨rfl,rfl⟩;rw[nE];obtain⟨q,hq⟩:∃q,q=dw ((kk:Nat):Int):=⟨_,rfl⟩;rw[←hq];cases q with
  | false=>
   refine aP ?_;refine dy _ _ ⟨X,v,fK,fK,[],[],ce,zx,.slice none 0 0,.slice none 0 0,?_,r8,eT,⟨rfl,rfl,rfl,rfl,rfl,rfl⟩,dE,hr,hz,hy,mM,bX,xQ,rfl,rfl,rfl,rfl,trivial⟩;rw[ec];cases X with
   |error e=>rfl
   |ok i=>
    show st2 ts fin ex one kk v i=_;unfold st2;rw[←hq];rfl
  | true=>
   refine aP ?_;refine oC (ml hr) ?_;rintro r w7⟨rfl,rfl⟩;cases X with
   |error e0=>
    unfold eV;refine aP ?_;exact dy _ _ ⟨.error e0,v,fK,fK,[],[],ce,zx,.slice none 0 0,.slice none 0 0,ec,r8,eT,⟨rfl,rfl,rfl,rfl,rfl,rfl⟩,dE,hr,hz,hy,mM,bX,xQ,rfl,rfl,rfl,rfl,trivial⟩
   | ok i=>
    have dP:=r8 rfl;unfold eV;refine aP ?_;refine cH ?_;refine aP ?_;refine nM ((deep+1:Nat):Int) ?_;refine oC (V2 (f-1) (deep+1) i (by omega) mM hr) ?_;rintro r w8⟨hE,aS⟩;have vn:=mM.pB hr aS;have mL:=aS.af hz (by simp;omega);have lN:=aS.af hy (by simp;omega);have Q8:=(eT rfl).keep aS (by simp;omega);obtain⟨cs,rfl,kR,my⟩:∃cs:List Value,r=.agg cs.toArray∧cs.length=4∧∀u∈cs,u.oneCell'=true:=by
     cases hc:gM ts fin vs (f-1) i with
     |error e=>rw[hc]at hE;obtain⟨⟨cs,h1,h2,h3⟩,_⟩:=hE;exact⟨cs,h1,h2,h3⟩
     |ok p=>obtain⟨t,j'⟩:=p;rw[hc]at hE;obtain⟨⟨cs,F,h1,h2,_⟩,_⟩:=hE;exact⟨cs,h1,h2.length,h2.one⟩
    refine aP ?_;refine aj (aH cs rfl (by rw[kR];exact zu) mL (by rw[pZ dE,kR];decide) my ?_);intro w9 n_ bg rE;have r9:=aaL (op:=((kk:Nat):Int)) (v:=((v:Nat):Int)) dE kR;have vo:ak w9 b5 (ep (kk:Nat) (v:Nat) cs zx (.slice none 0 0) (.slice none 0 0)) 143:=by
     rw[←r9];exact rE
    have Hs:Fm cs zx (.slice none 0 0) (.slice none 0 0):=⟨kR,dE.lf,my,dE.of,dE.bv,dE.ov⟩;refine aP ?_;cases hc:gM ts fin vs (f-1) i with
    |error e0=>
     rw[hc]at hE;refine dy _ _ ⟨.error e0,v,fK,fK,[],[],cs,zx,.slice none 0 0,.slice none 0 0,?_,fun h=>(by cases h),fun h=>(by cases h),⟨rfl,rfl,rfl,rfl,rfl,rfl⟩,Hs,hE.2.keep bg (by simp;omega),vo,bg.af lN (by simp;omega),yK vn mL bg,(bX.tr aS).aO bg (by omega),by have:=aS.size;have:=bg.size;omega,rfl,rfl,rfl,rfl,trivial⟩;rw[ec];show st2 ts fin ex one kk v i=_;unfold st2;rw[←hq,if_pos rfl,hex,hc];rfl
    | ok p=>
     obtain⟨t,j'⟩:=p;rw[hc]at hE;obtain⟨⟨ur,F',mi,iX,gU⟩,qD⟩:=hE;have zn:ur=cs:=by
      injection mi with mi;have:=congrArg Array.toList mi;simpa using this.symm
     subst zn;refine dy _ _ ⟨.ok j',v,t,fK,[],[],ur,zx,.slice none 0 0,.slice none 0 0,?_,fun _=>dP,fun _=>?_,⟨rfl,rfl,rfl,rfl,rfl,rfl⟩,Hs,qD.keep bg (by simp;omega),vo,bg.af lN (by simp;omega),yK vn mL bg,(bX.tr aS).aO bg (by omega),by have:=aS.size;have:=bg.size;omega,rfl,rfl,rfl,rfl,trivial⟩
     ·rw[ec];show st2 ts fin ex one kk v i=_;unfold st2;rw[←hq,if_pos rfl,hex,hc];rfl
     ·obtain⟨F,hF,h1,h2,h3,h4⟩:=Q8;refine Gd.keep (w:=w8) ⟨fun c=>F c∨F' c,?_,iX.mono fun c h=>.inr h,h2.mono fun c h=>.inl h,h3.mono fun c h=>.inl h,h4.mono fun c h=>.inl h⟩ bg (by simp;omega);rintro c (h|h)
      ·exact hF c h
      ·have:=gU c h;exact⟨by omega,this.2⟩
 rintro σ' w5⟨X,v,e,g,lb,lo,ce,cf,bv,ov,ec,r8,eT,⟨rfl,rfl,rfl,rfl,rfl,rfl⟩,dE,hr,hz,hy,mM,bX,xQ,bH⟩;refine bj bH ?_;refine bT ?_;refine fx (fun σ' w'=>∃(X:Except bp Nat) (v:Nat) (e g:ET) (lb lo:List ST) (ce cf:List Value) (bv ov:Value),bq=aF X (fun i=>vX ts fin one kk v e g i)∧(eV X=true→1≤f)∧(eV X=true→Gd w' B e g lb lo ce cf bv ov)∧(lb=[]∧lo=[]∧bv=.slice none 0 0∧ov=.slice none 0 0)∧Fm ce cf bv ov∧Rs w' b lv vv fin X∧
  ak w' b5 (ep (kk:Nat) (v:Nat) ce cf bv ov) 143∧ak w' b4 xO 143∧Cx w' lv vv ts vs∧ae [b] w w'∧B≤w'.heap.size∧Sub [(0,.pointer (some ⟨b,0,none⟩)),(1,.int .i64 (deep:Nat)),(4,.pointer (some ⟨b4,0,none⟩)),(5,.pointer (some ⟨b5,0,none⟩))] σ') ?_ ?_
 rotate_left
 ·intro dy;clear bH;refine bT ?_;refine cH ?_;refine aP ?_;refine ai _ (aB rfl (ak.cell hz (by rfl))) ?_;refine oC (rJ ((kk:Nat):Int) 102 _) ?_;rintro r w6⟨rfl,rfl⟩;rw[nF];obtain⟨q,hq⟩:∃q,q=cY ((kk:Nat):Int):=⟨_,rfl⟩;rw[←hq];cases q with
  | false=>
   refine aP ?_;refine dy _ _ ⟨X,v,e,fK,[],[],ce,zx,.slice none 0 0,.slice none 0 0,?_,r8,eT,⟨rfl,rfl,rfl,rfl⟩,dE,hr,hz,hy,mM,bX,xQ,rfl,rfl,rfl,rfl,trivial⟩;rw[ec];cases X with
   |error e=>rfl
   |ok i=>
    show vW ts fin ex one kk v e i=_;unfold vW;rw[←hq];rfl
  | true=>
   refine aP ?_;refine oC (ml hr) ?_;rintro r w7⟨rfl,rfl⟩;cases X with
   |error e0=>
    unfold eV;refine aP ?_;exact dy _ _ ⟨.error e0,v,e,fK,[],[],ce,zx,.slice none 0 0,.slice none 0 0,ec,r8,eT,⟨rfl,rfl,rfl,rfl⟩,dE,hr,hz,hy,mM,bX,xQ,rfl,rfl,rfl,rfl,trivial⟩
   | ok i=>
    have dP:=r8 rfl;unfold eV;refine aP ?_;refine cH ?_;refine aP ?_;refine nM ((deep+1:Nat):Int) ?_;refine oC (V2 (f-1) (deep+1) i (by omega) mM hr) ?_;rintro r w8⟨hE,aS⟩;have vn:=mM.pB hr aS;have mL:=aS.af hz (by simp;omega);have lN:=aS.af hy (by simp;omega);have Q8:=(eT rfl).keep aS (by simp;omega);obtain⟨cs,rfl,kR,my⟩:∃cs:List Value,r=.agg cs.toArray∧cs.length=4∧∀u∈cs,u.oneCell'=true:=by
     cases hc:gM ts fin vs (f-1) i with
     |error e=>rw[hc]at hE;obtain⟨⟨cs,h1,h2,h3⟩,_⟩:=hE;exact⟨cs,h1,h2,h3⟩
     |ok p=>obtain⟨t,j'⟩:=p;rw[hc]at hE;obtain⟨⟨cs,F,h1,h2,_⟩,_⟩:=hE;exact⟨cs,h1,h2.length,h2.one⟩
    refine aP ?_;refine aj (aH cs rfl (by rw[kR];exact zu) mL (by rw[pZ dE,kR];decide) my ?_);intro w9 n_ bg rE;have r9:=aaM (op:=((kk:Nat):Int)) (v:=((v:Nat):Int)) dE kR;have vo:ak w9 b5 (ep (kk:Nat) (v:Nat) ce cs (.slice none 0 0) (.slice none 0 0)) 143:=by
     rw[←r9];exact rE
    have Hs:Fm ce cs (.slice none 0 0) (.slice none 0 0):=⟨dE.le,kR,dE.oe,my,dE.bv,dE.ov⟩;refine aP ?_;cases hc:gM ts fin vs (f-1) i with
    |error e0=>
     rw[hc]at hE;refine dy _ _ ⟨.error e0,v,e,fK,[],[],ce,cs,.slice none 0 0,.slice none 0 0,?_,fun h=>(by cases h),fun h=>(by cases h),⟨rfl,rfl,rfl,rfl⟩,Hs,hE.2.keep bg (by simp;omega),vo,bg.af lN (by simp;omega),yK vn mL bg,(bX.tr aS).aO bg (by omega),by have:=aS.size;have:=bg.size;omega,rfl,rfl,rfl,rfl,trivial⟩;rw[ec];show vW ts fin ex one kk v e i=_;unfold vW;rw[←hq,if_pos rfl,hex,hc];rfl
    | ok p=>
     obtain⟨t,j'⟩:=p;rw[hc]at hE;obtain⟨⟨ur,F',mi,iX,gU⟩,qD⟩:=hE;have zn:ur=cs:=by
      injection mi with mi;have:=congrArg Array.toList mi;simpa using this.symm
     subst zn;refine dy _ _ ⟨.ok j',v,e,t,[],[],ce,ur,.slice none 0 0,.slice none 0 0,?_,fun _=>dP,fun _=>?_,⟨rfl,rfl,rfl,rfl⟩,Hs,qD.keep bg (by simp;omega),vo,bg.af lN (by simp;omega),yK vn mL bg,(bX.tr aS).aO bg (by omega),by have:=aS.size;have:=bg.size;omega,rfl,rfl,rfl,rfl,trivial⟩
     ·rw[ec];show vW ts fin ex one kk v e i=_;unfold vW;rw[←hq,if_pos rfl,hex,hc];rfl
     ·obtain⟨F,hF,h1,h2,h3,h4⟩:=Q8;refine Gd.keep (w:=w8) ⟨fun c=>F c∨F' c,?_,h1.mono fun c h=>.inl h,iX.mono fun c h=>.inr h,h3.mono fun c h=>.inl h,h4.mono fun c h=>.inl h⟩ bg (by simp;omega);rintro c (h|h)
      ·exact hF c h
      ·have:=gU c h;exact⟨by omega,this.2⟩
 rintro σ' w5⟨X,v,e,g,lb,lo,ce,cf,bv,ov,ec,r8,eT,⟨rfl,rfl,rfl,rfl⟩,dE,hr,hz,hy,mM,bX,xQ,bH⟩;refine bj bH ?_;refine bT ?_;refine fx (fun σ' w'=>∃(X:Except bp Nat) (v:Nat) (e g:ET) (lb lo:List ST) (ce cf:List Value) (bv ov:Value),bq=aF X (fun i=>vY ts fin one kk v e g lb i)∧(eV X=true→1≤f)∧(eV X=true→Gd w' B e g lb lo ce cf bv ov)∧(lo=[]∧ov=.slice none 0 0)∧Fm ce cf bv ov∧Rs w' b lv vv fin X∧
  ak w' b5 (ep (kk:Nat) (v:Nat) ce cf bv ov) 143∧ak w' b4 xO 143∧Cx w' lv vv ts vs∧ae [b] w w'∧B≤w'.heap.size∧Sub [(0,.pointer (some ⟨b,0,none⟩)),(1,.int .i64 (deep:Nat)),(4,.pointer (some ⟨b4,0,none⟩)),(5,.pointer (some ⟨b5,0,none⟩))] σ') ?_ ?_
 rotate_left
 ·intro dy;clear bH;refine bT ?_;refine cH ?_;refine aP ?_;refine ai _ (aB rfl (ak.cell hz (by rfl))) ?_;refine oC (rJ ((kk:Nat):Int) 98 _) ?_;rintro r w6⟨rfl,rfl⟩;rw[nB];obtain⟨q,hq⟩:∃q,q=mn ((kk:Nat):Int):=⟨_,rfl⟩;rw[←hq];cases q with
  | false=>
   refine aP ?_;refine dy _ _ ⟨X,v,e,g,[],[],ce,cf,.slice none 0 0,.slice none 0 0,?_,r8,eT,⟨rfl,rfl⟩,dE,hr,hz,hy,mM,bX,xQ,rfl,rfl,rfl,rfl,trivial⟩;rw[ec];cases X with
   |error e=>rfl
   |ok i=>
    show vX ts fin one kk v e g i=_;unfold vX;rw[←hq];rfl
  | true=>
   have ED:kk≠0:=by
    intro h0;rw[h0]at hq;cases hq
   have aoB:=(zm ED).1;refine aP ?_;refine cH ?_;refine aP ?_;refine nM ((deep+1:Nat):Int) ?_;refine oC (V3 (one:=ie ts fin vs (f-1)) (deep:=deep+1) (qI vs (f-1)) (fun i w hc hr=>ih (f-1) (by omega) (deep+1) i (by omega) hc hr) mM hr) ?_;rintro r w8⟨hL,aS⟩;rw[←iQ]at hL;have vn:=mM.pB hr aS;have mL:=aS.af hz (by simp;omega);have lN:=aS.af hy (by simp;omega);obtain⟨a,n,c,rfl⟩:∃a n c,r=.slice a n c:=by
    cases hc:aF X (jC ts fin one)with
    |error e=>rw[hc]at hL;exact hL.1
    |ok p=>
     obtain⟨l,j'⟩:=p;rw[hc]at hL;obtain⟨⟨F,h1,_⟩,_⟩:=hL;obtain⟨a,cap,hv⟩:=h1.form;exact⟨_,_,_,hv⟩
   refine aP ?_;refine aj (aH [.slice a n c] rfl JS mL (by rw[pZ dE];simp) (by simp;rfl) ?_);intro w9 n_ bg rE;have r9:=aaN (op:=((kk:Nat):Int)) (v:=((v:Nat):Int)) dE (.slice a n c);have vo:ak w9 b5 (ep (kk:Nat) (v:Nat) ce cf (.slice a n c) (.slice none 0 0)) 143:=by
    rw[←r9];exact rE
   refine aP ?_;cases hc:aF X (jC ts fin one)with
   | error e0=>
    rw[hc]at hL;refine dy _ _ ⟨.error e0,v,e,g,[],[],ce,cf,.slice a n c,.slice none 0 0,?_,fun h=>(by cases h),fun h=>(by cases h),⟨rfl,rfl⟩,⟨dE.le,dE.lf,dE.oe,dE.of,rfl,dE.ov⟩,hL.2.keep bg (by simp;omega),vo,bg.af lN (by simp;omega),yK vn mL bg,(bX.tr aS).aO bg (by omega),by have:=aS.size;have:=bg.size;omega,rfl,rfl,rfl,rfl,trivial⟩;rw[ec];cases X with
    |error e=>cases hc;rfl
    |ok i=>
     have cG:jC ts fin one i=.error e0:=hc;show vX ts fin one kk v e g i=_;unfold vX;rw[←hq,if_pos rfl,cG];rfl
   | ok p=>
    obtain⟨t,j'⟩:=p;rw[hc]at hL;obtain⟨⟨F',iX,gU⟩,qD⟩:=hL;cases X with
    |error e=>cases hc
    | ok i=>
     have cG:jC ts fin one i=.ok (t,j'):=hc;have dP:=r8 rfl;refine dy _ _ ⟨.ok j',v,e,g,t,[],ce,cf,.slice a n c,.slice none 0 0,?_,fun _=>dP,fun _=>?_,⟨rfl,rfl⟩,⟨dE.le,dE.lf,dE.oe,dE.of,rfl,dE.ov⟩,qD.keep bg (by simp;omega),vo,bg.af lN (by simp;omega),yK vn mL bg,(bX.tr aS).aO bg (by omega),by have:=aS.size;have:=bg.size;omega,rfl,rfl,rfl,rfl,trivial⟩
     ·rw[ec];show vX ts fin one kk v e g i=_;unfold vX;rw[←hq,if_pos rfl,cG];rfl
     ·obtain⟨F,hF,h1,h2,h3,h4⟩:=(eT rfl).keep aS (by simp;omega);refine Gd.keep (w:=w8) ⟨fun c=>F c∨F' c,?_,h1.mono fun c h=>.inl h,h2.mono fun c h=>.inl h,iX.mono fun c h=>.inr h,h4.mono fun c h=>.inl h⟩ bg (by simp;omega);rintro c (h|h)
      ·exact hF c h
      ·have:=gU c h;exact⟨by omega,this.2⟩
 rintro σ' w5⟨X,v,e,g,lb,lo,ce,cf,bv,ov,ec,r8,eT,⟨rfl,rfl⟩,dE,hr,hz,hy,mM,bX,xQ,bH⟩;refine bj bH ?_;refine bT ?_;refine fx (fun σ' w'=>∃(X:Except bp Nat) (v:Nat) (e g:ET) (lb lo:List ST) (ce cf:List Value) (bv ov:Value),bq=aF X (fun i=>C4 ts fin kk v e g lb lo i)∧(eV X=true→1≤f)∧(eV X=true→Gd w' B e g lb lo ce cf bv ov)∧True∧Fm ce cf bv ov∧Rs w' b lv vv fin X∧
  ak w' b5 (ep (kk:Nat) (v:Nat) ce cf bv ov) 143∧ak w' b4 xO 143∧Cx w' lv vv ts vs∧ae [b] w w'∧B≤w'.heap.size∧Sub [(0,.pointer (some ⟨b,0,none⟩)),(1,.int .i64 (deep:Nat)),(4,.pointer (some ⟨b4,0,none⟩)),(5,.pointer (some ⟨b5,0,none⟩))] σ') ?_ ?_
 rotate_left
 ·intro dy;clear bH;refine bT ?_;refine cH ?_;refine aP ?_;refine ai _ (aB rfl (ak.cell hz (by rfl))) ?_;refine oC (rJ ((kk:Nat):Int) 111 _) ?_;rintro r w6⟨rfl,rfl⟩;rw[nO];obtain⟨q,hq⟩:∃q,q=lz ((kk:Nat):Int):=⟨_,rfl⟩;rw[←hq];cases q with
  | false=>
   refine aP ?_;refine dy _ _ ⟨X,v,e,g,lb,[],ce,cf,bv,.slice none 0 0,?_,r8,eT,trivial,dE,hr,hz,hy,mM,bX,xQ,rfl,rfl,rfl,rfl,trivial⟩;rw[ec];cases X with
   |error e=>rfl
   |ok i=>
    show vY ts fin one kk v e g lb i=_;unfold vY;rw[←hq];rfl
  | true=>
   have ED:kk≠0:=by
    intro h0;rw[h0]at hq;cases hq
   have aoB:=(zm ED).1;refine aP ?_;refine cH ?_;refine aP ?_;refine nM ((deep+1:Nat):Int) ?_;refine oC (V3 (one:=ie ts fin vs (f-1)) (deep:=deep+1) (qI vs (f-1)) (fun i w hc hr=>ih (f-1) (by omega) (deep+1) i (by omega) hc hr) mM hr) ?_;rintro r w8⟨hL,aS⟩;rw[←iQ]at hL;have vn:=mM.pB hr aS;have mL:=aS.af hz (by simp;omega);have lN:=aS.af hy (by simp;omega);obtain⟨a,n,c,rfl⟩:∃a n c,r=.slice a n c:=by
    cases hc:aF X (jC ts fin one)with
    |error e=>rw[hc]at hL;exact hL.1
    |ok p=>
     obtain⟨l,j'⟩:=p;rw[hc]at hL;obtain⟨⟨F,h1,_⟩,_⟩:=hL;obtain⟨a,cap,hv⟩:=h1.form;exact⟨_,_,_,hv⟩
   refine aP ?_;refine aj (aH [.slice a n c] rfl JS mL (by rw[pZ dE];simp) (by simp;rfl) ?_);intro w9 n_ bg rE;have r9:=aaO (op:=((kk:Nat):Int)) (v:=((v:Nat):Int)) dE (.slice a n c);have vo:ak w9 b5 (ep (kk:Nat) (v:Nat) ce cf bv (.slice a n c)) 143:=by
    rw[←r9];exact rE
   refine aP ?_;cases hc:aF X (jC ts fin one)with
   | error e0=>
    rw[hc]at hL;refine dy _ _ ⟨.error e0,v,e,g,lb,[],ce,cf,bv,.slice a n c,?_,fun h=>(by cases h),fun h=>(by cases h),trivial,⟨dE.le,dE.lf,dE.oe,dE.of,dE.bv,rfl⟩,hL.2.keep bg (by simp;omega),vo,bg.af lN (by simp;omega),yK vn mL bg,(bX.tr aS).aO bg (by omega),by have:=aS.size;have:=bg.size;omega,rfl,rfl,rfl,rfl,trivial⟩;rw[ec];cases X with
    |error e=>cases hc;rfl
    |ok i=>
     have cG:jC ts fin one i=.error e0:=hc;show vY ts fin one kk v e g lb i=_;unfold vY;rw[←hq,if_pos rfl,cG];rfl
   | ok p=>
    obtain⟨t,j'⟩:=p;rw[hc]at hL;obtain⟨⟨F',iX,gU⟩,qD⟩:=hL;cases X with
    |error e=>cases hc
    | ok i=>
     have cG:jC ts fin one i=.ok (t,j'):=hc;have dP:=r8 rfl;refine dy _ _ ⟨.ok j',v,e,g,lb,t,ce,cf,bv,.slice a n c,?_,fun _=>dP,fun _=>?_,trivial,⟨dE.le,dE.lf,dE.oe,dE.of,dE.bv,rfl⟩,qD.keep bg (by simp;omega),vo,bg.af lN (by simp;omega),yK vn mL bg,(bX.tr aS).aO bg (by omega),by have:=aS.size;have:=bg.size;omega,rfl,rfl,rfl,rfl,trivial⟩
     ·rw[ec];show vY ts fin one kk v e g lb i=_;unfold vY;rw[←hq,if_pos rfl,cG];rfl
     ·obtain⟨F,hF,h1,h2,h3,h4⟩:=(eT rfl).keep aS (by simp;omega);refine Gd.keep (w:=w8) ⟨fun c=>F c∨F' c,?_,h1.mono fun c h=>.inl h,h2.mono fun c h=>.inl h,h3.mono fun c h=>.inl h,iX.mono fun c h=>.inr h⟩ bg (by simp;omega);rintro c (h|h)
      ·exact hF c h
      ·have:=gU c h;exact⟨by omega,this.2⟩
 rintro σ' w5⟨X,v,e,g,lb,lo,ce,cf,bv,ov,ec,r8,eT,_,dE,hr,hz,hy,mM,bX,xQ,bH⟩
 --the end
 refine bj bH ?_;refine oC (DD mM hr [41]) ?_;rintro r w8⟨Im,aS⟩;have mL:=aS.af hz (by simp;omega);have lN:=aS.af hy (by simp;omega);have BW:=pZ (op:=((kk:Nat):Int)) (v:=((v:Nat):Int)) dE;refine au ?_;refine ai _ (h_ (ep (kk:Nat) (v:Nat) ce cf bv ov) hT rfl rfl (by rw[BW];rfl) (mL.range (by simp))) ?_;refine aj (aH (ep (kk:Nat) (v:Nat) ce cf bv ov) rfl (by rw[BW];exact J_) lN (by rw[BW];exact Nat.le_refl _) (Dm dE) ?_);intro w9 n_ bg rH;rw[bs (by rw[BW];rfl)]at rH;refine au ?_;have yR:=Im.keep bg (by simp;omega);have gY:ae [b] w w9:=(bX.tr aS).aO bg (by omega);refine df func83 (.inr (.inr (.inl ⟨_,_,_,rfl,rfl,cV hT rH (by rw[BW];rfl)⟩))) ⟨?_,gY⟩;rw[ec];cases X with
 |error e=>exact⟨⟨_,rfl,BW,Dm dE⟩,yR⟩
 | ok i6=>
  have yJ:Rs w9 b lv vv fin (eu ts fin [41] i6):=yR;show Q7 w w9 b lv vv fin _ (C4 ts fin kk v e g lb lo i6);unfold C4;cases hc:eu ts fin [41] i6 with
  |error e=>rw[hc]at yJ;exact⟨⟨_,rfl,BW,Dm dE⟩,yJ⟩
  |ok i7=>
   rw[hc]at yJ;obtain⟨F,hF,h1,h2,h3,h4⟩:=((eT rfl).keep aS (by simp;omega)).keep bg (by simp;omega);exact⟨⟨_,F,rfl,iO.of h1 h2 h3 h4,fun c cG=>by have:=hF c cG;omega⟩,yJ⟩
abbrev oD:Nat:=191
def kD(a b:Value)(n:Nat)(c:Int):List Value:=[a,b,.int .i64 (n:Nat),.int .i64 c]
def fU(is:Bool)(c cd:Int):Int:=if is=true∧c=0 then cd else c
section
variable{w:World}{j n:Nat}{a b:Value}{c:Int}
theorem sI(h:ak w j (kD a b n c) oD)(is:Bool)(cd:Int):aC prog 157 [.pointer (some ⟨j,0,none⟩),.bool is,.int .i64 cd] w fun r w'=>r=.tuple #[]∧ak w' j (kD a b n (fU is c cd)) oD∧ae [j] w w':=by
 refine aG 18 func157 ?_;have h':=h;unfold kD at h';cases is with
 |false=>
  refine au ?_;refine bK func157 rfl ⟨rfl,?_,ae.refl _ _⟩;simpa[fU]using h
 | true=>
  by_cases hc:c=0
  ·refine aU ?_;refine aj (aH [.int .i64 cd] rfl (by kernel_rfl) h' (by simp) (by simp;rfl) ?_);intro w1 bt ah ny;refine au ?_;refine bK func157 rfl ⟨rfl,?_,ah⟩;have e:fU true c cd=cd:=by simp[fU,hc]
   rw[e];exact ny
  ·refine aU ?_;refine bK func157 rfl ⟨rfl,?_,ae.refl _ _⟩;have e:fU true c cd=c:=by simp[fU,hc]
   rw[e];exact h
theorem Xl(h:ak w j (kD a b n c) oD)(deep:Int)(hn:n≤100000):aC prog 156 [.pointer (some ⟨j,0,none⟩),.int .i64 deep] w fun r w'=>r=.tuple #[]∧ak w' j (kD a b (n+1) (fU (decide (n+1>150)) (fU (decide (deep>12)) c 4) 3)) oD∧ae [j] w w':=by
 refine aG 22 func156 ?_;have h':=h;unfold kD at h';refine aU ?_;refine nM ((n+1:Nat):Int) ?_;refine au ?_;refine aj (aH [.int .i64 ((n+1:Nat):Int)] rfl (by kernel_rfl) h' (by simp) (by simp;rfl) ?_);intro w1 bt ah ny;have aoo:ak w1 j (kD a b (n+1) c) oD:=ny;refine au ?_;refine ai (.bool (decide (deep>12))) (bP .i64 _ _ _ rfl (by rfl) w1) ?_;refine aj (aV rfl ((sI aoo (decide (deep>12)) 4).mono ?_));rintro v2 w2⟨rfl,nk,an⟩;have aaR:=nk;unfold kD at aaR;refine lB aaR ?_;refine ai (.bool (decide (n+1>150))) (bP .i64 _ _ _ rfl (by simp only[bU];congr 2;simp;omega) w2) ?_;refine aj (aV rfl ((sI nk (decide (n+1>150)) 3).mono ?_));rintro v3 w3⟨rfl,y_,aw⟩;refine au ?_;exact bK func156 rfl ⟨rfl,y_,(ah.tr an).tr aw⟩
def nY(nv:Nat)(v:Int)(has:Bool)(c:Int):Int:=if has then fU (decide (v<0∨v≥(nv:Int))) c 1 else fU (decide (v≠0)) c 5
theorem M9{av:Option Addr}{nv aY:Nat}(h:ak w j (kD (.slice av nv aY) b n c) oD)(v:Int)(has:Bool):aC prog 159 [.pointer (some ⟨j,0,none⟩),.int .i64 v,.bool has] w fun r w'=>r=.tuple #[]∧ak w' j (kD (.slice av nv aY) b n (nY nv v has c)) oD∧ae [j] w w':=by
 refine aG 25 func159 ?_;have h':=h;unfold kD at h';cases has with
 | true=>
  by_cases h1:v<0
  ·refine aU ?_;refine aj (aV rfl ((sI h true 1).mono ?_));rintro v2 w2⟨rfl,nk,an⟩;refine au ?_;refine bK func159 rfl ⟨rfl,?_,an⟩;have e:nY nv v true c=fU true c 1:=by simp[nY,h1]
   rw[e];exact nk
  ·refine aU ?_;refine ai (.bool (decide (v≥(nv:Int)))) (bP .i64 _ _ _ rfl (by rfl) w) ?_;refine au ?_;refine aj (aV rfl ((sI h (decide (v≥(nv:Int))) 1).mono ?_));rintro v2 w2⟨rfl,nk,an⟩;refine au ?_;refine bK func159 rfl ⟨rfl,?_,an⟩;have e:nY nv v true c=fU (decide (v≥(nv:Int))) c 1:=by simp[nY,h1]
   rw[e];exact nk
 |false=>
  refine au ?_;refine ai (.bool (decide (v≠0))) (bP .i64 _ _ _ rfl (by simp only[bU];congr 2;rw[Bool.eq_iff_iff];simp) w) ?_;refine aj (aV rfl ((sI h (decide (v≠0)) 5).mono ?_));rintro v2 w2⟨rfl,nk,an⟩;refine au ?_;exact bK func159 rfl ⟨rfl,nk,an⟩
end
def Tr(x:Nat→Except Int Nat)(n:Nat)(c:Int)(n':Nat)(c':Int):Prop:=
 (c≠0→n'=n∧c'=c)∧(c=0→(∀q,x n=.ok q→n'=q∧c'=0)∧∀e,x n=.error e→c'=e)∧n'≤151∧(c'=0→n'≤150)
theorem Tr.id{n:Nat}{c:Int}(h:n≤151)(h0:c=0→n≤150):Tr (fun k=>.ok k) n c n c:=⟨fun _=>⟨rfl,rfl⟩,fun hc=>⟨fun q hq=>by injection hq with hq;exact⟨hq,hc⟩,fun e he=>by cases he⟩,h,h0⟩
theorem Tr.seq{x y:Nat→Except Int Nat}{n n1 n2:Nat}{c c1 c2:Int}(h1:Tr x n c n1 c1)(hx:qQ (x n))(h2:Tr y n1 c1 n2 c2):Tr (fun k=>fC (x k) y) n c n2 c2:=by
 refine⟨fun hc=>?_,fun hc=>?_,h2.2.2⟩
 ·obtain⟨rfl,rfl⟩:=h1.1 hc;exact h2.1 hc
 ·obtain⟨ha,hb⟩:=h1.2.1 hc;cases uJ:x n with
  |error e=>
   have:=hb e uJ;subst this;obtain⟨rfl,rfl⟩:=h2.1 (hx _ uJ);exact⟨fun q hq=>(by simp only[fC,uJ]at hq;cases hq),fun e' he=>(by simp only[fC,uJ]at he;injection he)⟩
  |ok k1=>
   obtain⟨rfl,rfl⟩:=ha k1 uJ;have:=h2.2.1 rfl;exact⟨fun q hq=>this.1 q (by simpa only[fC,uJ]using hq),fun e he=>this.2 e (by simpa only[fC,uJ]using he)⟩
theorem U3(nv n:Nat)(deep:Int)(known PV PW named:Bool)(v:Int)(k2 f1 f2:Bool)(h1:k2=!known)(h2:(f1||f2)=!(PV&&PW)):nY nv v named (fU f2 (fU f1 (fU k2 (fU (decide (n+1>150)) (fU (decide (deep>12)) 0 4) 3) 2) 5) 5)=oM nv n deep known (PV&&PW) named v:=by
 unfold oM;by_cases d:deep>12
 ·have:nY nv v named 4=4:=by cases named<;>simp[nY,fU]
  simp[fU,d,this]
 ·by_cases m:n+1>150
  ·have:nY nv v named 3=3:=by cases named<;>simp[nY,fU]
   simp[fU,d,m,this]
  ·cases known with
   |false=>
    have:nY nv v named 2=2:=by cases named<;>simp[nY,fU]
    subst h1;simp[fU,d,m,this]
   | true=>
    subst h1;cases hf:(PV&&PW)with
    | false=>
     rw[hf]at h2;have:nY nv v named 5=5:=by cases named<;>simp[nY,fU]
     cases f1 with
     |true=>simp[fU,d,m,this]
     |false=>
      simp at h2;subst h2;simp[fU,d,m,this]
    |true=>
     rw[hf]at h2;simp at h2;obtain⟨rfl,rfl⟩:=h2;have:nY nv v named 0=nR nv v named:=by cases named<;>simp[nY,fU,nR]
     simp[fU,d,m,this]
theorem TK{j nv aY:Nat}{av:Option Addr}{b:Value}:∀(s:Nat) (t:ET),fO t≤s→fO t≤100000→∀{F:Nat→Prop} {w:World} {cs:List Value} (deep n:Nat) (c:Int),dY F w cs t→In F w→¬F j→ak w j (kD (.slice av nv aY) b n c) oD→deep≤14→n≤151→(c=0→n≤150)→aC prog 160 [.pointer (some ⟨j,0,none⟩),.agg cs.toArray,.int .i64 (deep:Nat)] w fun r w'=>r=.tuple #[]∧(∃n' c',ak w' j (kD (.slice av nv aY) b n' c') oD∧Tr (gO nv t deep) n c n' c')∧ae [j] w w':=by
 intro s;induction s with
 |zero=>intro t ht;have:=Yo t;omega
 | succ s ih=>
  intro t ht fY F w cs deep n c h hF zj hJ D3 hn IL;obtain⟨op,v,nn,l⟩:=t;obtain⟨lv,rfl,hl⟩:=h.inv;obtain⟨al,LI,rfl⟩:=hl.form;simp only[fO]at ht fY;have hlen:=F4 l;refine aG 75 func160 ?_;refine au ?_;refine aj (bY [.int .i64 op,.int .i64 v,.int .i64 nn,.slice al l.length LI] rfl ?_);intro w1 x hx bt ah cm;have IM:=ah.af hJ (by simp);have QZ:=IM;unfold kD at QZ;have AW:x≠j:=cm.ne IM (by decide);refine lB QZ ?_;by_cases hc:c=0
  ·subst hc;have aro:=IL rfl;refine aL ?_;refine au ?_;refine aj (aV rfl ((Xl IM (deep:Nat) (by omega)).mono ?_));rintro v2 w2⟨rfl,C5,an⟩;have gZ:=an.af cm (by simpa using AW);refine lB gZ ?_;refine aj (aV rfl ((Uf op w2).mono ?_));rintro v3 w3⟨rfl,rfl⟩;refine au ?_;refine ai (.bool (!qN op)) (bP .i64 _ _ _ rfl (by simp only[bU];congr 2;unfold qN;rw[Bool.eq_iff_iff];simp) w3) ?_;refine aj (aV rfl ((sI C5 (!qN op) 2).mono ?_));rintro v4 w4⟨rfl,MS,ax⟩;have fk:=ax.af gZ (by simpa using AW);refine lB fk ?_;refine au ?_;refine ai (.bool (!decide ((l.length:Int)=partsOf op))) (bP .i64 _ _ _ rfl (by simp only[bU];congr 2;rw[Bool.eq_iff_iff];simp;omega) w4) ?_;refine aj (aV rfl ((sI MS (!decide ((l.length:Int)=partsOf op)) 5).mono ?_));rintro v5 w5⟨rfl,Ft,aE⟩;have jg:=aE.af fk (by simpa using AW);refine fP ?_;refine bT ?_;refine fx (fun σ' w'=>∃c6,c6=fU (!(op==1||nn==0)) (fU (!decide ((l.length:Int)=partsOf op)) (fU (!qN op) (fU (decide (n+1>150)) (fU (decide ((deep:Int)>12)) 0 4) 3) 2) 5) 5∧ak w' j (kD (.slice av nv aY) b (n+1) c6) oD∧ak w' x [.int .i64 op,.int .i64 v,.int .i64 nn,.slice al l.length LI] 141∧ae [j] w w'∧Sub [(0,.pointer (some ⟨j,0,none⟩)),(2,.int .i64 (deep:Nat)),(4,.pointer (some ⟨x,0,none⟩))] σ') ?_ ?_
   ·rintro σ' w6⟨c6,om,xP,yS,aD,bH⟩;refine bj bH ?_;refine bT ?_;refine fx (fun σ' w'=>∃c7,c7=nY nv v (qb op) c6∧ak w' j (kD (.slice av nv aY) b (n+1) c7) oD∧ak w' x [.int .i64 op,.int .i64 v,.int .i64 nn,.slice al l.length LI] 141∧ae [j] w w'∧Sub [(0,.pointer (some ⟨j,0,none⟩)),(2,.int .i64 (deep:Nat)),(4,.pointer (some ⟨x,0,none⟩))] σ') ?_ ?_
    ·rintro σ' w7⟨c7,vF,Fu,Mi,aN,bH⟩;refine bj bH ?_;have oq:c7=oM nv n (deep:Nat) (qN op) (wI op nn l.length) (qb op) v:=by
      rw[vF,om];exact U3 nv n (deep:Nat) (qN op) (decide ((l.length:Int)=partsOf op)) (op==1||nn==0) (qb op) v _ _ _ rfl (by cases decide ((l.length:Int)=partsOf op)<;>cases(op==1||nn==0)<;>rfl)
     clear om vF IM QZ C5 MS Ft cm gZ fk jg an ax aE;refine au ?_;refine cP (fun m σ w'=>∃(i ni:Nat) (ci:Int),i≤l.length∧m=l.length-i∧σ=[(0,.pointer (some ⟨j,0,none⟩)),(2,.int .i64 (deep:Nat)),(4,.pointer (some ⟨x,0,none⟩)),(7,.int .i64 (i:Nat))]∧ak w' j (kD (.slice av nv aY) b ni ci) oD∧ak w' x [.int .i64 op,.int .i64 v,.int .i64 nn,.slice al l.length LI] 141∧ae [j] w w'∧
      ni≤151∧((ci=0∧c7=0∧ni≤150∧eY nv (l.take i) (deep+1) (n+1)=.ok ni)∨(ci≠0∧gO nv (.mk op v nn l) deep n=.error ci))) l.length _ ?_ ⟨0,n+1,c7,by omega,by omega,rfl,Fu,Mi,aN,by omega,?_⟩ ?_
     ·exact⟨rfl,rfl,rfl,rfl,trivial⟩
     ·by_cases hz:c7=0
      ·have:=A8 (oq.symm.trans hz);exact .inl ⟨hz,hz,by omega,by simp[eY]⟩
      ·refine .inr ⟨hz,?_⟩;rw[FQ,←oq,if_pos hz]
     clear Fu Mi aN;rintro m σ w8 nj⟨i,ni,ci,hi,rfl,rfl,MT,rn,aS,AX,gy⟩;have aop:=MT;unfold kD at aop;refine lB rn ?_;refine au ?_;by_cases az:i<l.length
     ·rcases gy with⟨mJ,Hm,Kr,cR⟩|⟨mJ,cR⟩
      ·subst mJ;have ym:=A8 (oq.symm.trans Hm);have cZ:l[i]?=some l[i]:=List.getElem?_eq_getElem az;have bw:=XK cZ;have eJ:=Wt cZ cR;obtain⟨bb,q,_,cj,kx,_,dD,hcj⟩:=(hl.keep aS (xW hF zj)).at cZ;cases kx;refine aU ?_;refine ai _ (bJ i rfl az w8) ?_;refine ai (.agg cj.toArray) (h_ cj hT rfl rfl (by rw[hcj.length];rfl) dD) ?_;refine nM ((deep+1:Nat):Int) ?_;refine aj (aV rfl ((ih l[i] (by omega) (by omega) (deep+1) ni 0 hcj (hF.keep aS) zj MT (by omega) AX (fun _=>Kr)).mono ?_));rintro v9 w9⟨rfl,⟨n9,c9,hJ9,Q0⟩,bg⟩;have sy:=bg.af rn (by simpa using AW);refine nM ((i+1:Nat):Int) ?_;refine au ?_;refine bj ?_ (nj (l.length-(i+1)) [(0,.pointer (some ⟨j,0,none⟩)),(2,.int .i64 (deep:Nat)),(4,.pointer (some ⟨x,0,none⟩)),(7,.int .i64 ((i+1:Nat):Int))] w9 (by omega)
        ⟨i+1,n9,c9,by omega,rfl,rfl,hJ9,sy,aS.tr bg,Q0.2.2.1,?_⟩)
       ·exact⟨rfl,rfl,rfl,rfl,trivial⟩
       ·have ht:=Q0.2.1 rfl;cases uO:gO nv l[i] (deep+1) ni with
        |ok q=>
         obtain⟨rfl,rfl⟩:=ht.1 q uO;exact .inl ⟨rfl,Hm,Q0.2.2.2 rfl,by rw[eJ.1,uO]⟩
        |error e=>
         have:=ht.2 e uO;subst this;refine .inr ⟨DR nv _ _ _ _ uO,?_⟩;rw[FQ,←oq,if_neg (by simp[Hm])];exact eJ.2 _ uO
      ·refine aU ?_;refine bK func160 rfl ⟨rfl,⟨ni,ci,MT,?_⟩,aS⟩;exact⟨fun h=>absurd rfl h,fun _=>⟨fun q hq=>(by rw[cR]at hq;cases hq),fun e he=>(by rw[cR]at he;injection he)⟩,AX,fun h=>absurd h mJ⟩
     ·refine aL ?_;refine au ?_;refine bK func160 rfl ⟨rfl,⟨ni,ci,MT,?_⟩,aS⟩;rcases gy with⟨mJ,Hm,Kr,cR⟩|⟨mJ,cR⟩
      ·rw[List.take_of_length_le (by omega)]at cR;have hE:gO nv (.mk op v nn l) deep n=.ok ni:=by rw[FQ,←oq,if_neg (by simp[Hm])];exact cR
       exact⟨fun h=>absurd rfl h,fun _=>⟨fun q hq=>(by rw[hE]at hq;injection hq with hq;exact⟨hq,mJ⟩),fun e he=>(by rw[hE]at he;cases he)⟩,AX,fun _=>Kr⟩
      ·exact⟨fun h=>absurd rfl h,fun _=>⟨fun q hq=>(by rw[cR]at hq;cases hq),fun e he=>(by rw[cR]at he;injection he)⟩,AX,fun h=>absurd h mJ⟩
    ·intro aaS;by_cases h2:op=2
     ·refine aU ?_;refine aj (aV rfl ((M9 xP v true).mono ?_));rintro v7 w7⟨rfl,Fu,aN⟩;refine fP ?_;exact aaS _ _ ⟨_,by simp[qb,h2],Fu,aN.af yS (by simpa using AW),aD.tr aN,rfl,rfl,rfl,trivial⟩
     ·refine aU ?_;refine ai (.bool (qb op)) (bP .i64 _ _ _ rfl (by simp[bU,qb,h2]) w6) ?_;refine au ?_;refine aj (aV rfl ((M9 xP v (qb op)).mono ?_));rintro v7 w7⟨rfl,Fu,aN⟩;refine fP ?_;exact aaS _ _ ⟨_,rfl,Fu,aN.af yS (by simpa using AW),aD.tr aN,rfl,rfl,rfl,trivial⟩
   ·intro aaT;have aaU:ae [j] w w5:=(((ae.bG ah).tr an).tr ax).tr aE;by_cases h1:op=1
    ·refine aU ?_;refine aj (aV rfl ((sI Ft false 5).mono ?_));rintro v6 w6⟨rfl,xP,aD⟩;refine fP ?_;exact aaT _ _ ⟨_,by simp[h1],xP,aD.af jg (by simpa using AW),aaU.tr aD,rfl,rfl,rfl,trivial⟩
    ·refine aU ?_;refine ai (.bool (!(op==1||nn==0))) (bP .i64 _ _ _ rfl (by simp only[bU];congr 2;rw[Bool.eq_iff_iff];simp[h1]) w5) ?_;refine au ?_;refine aj (aV rfl ((sI Ft (!(op==1||nn==0)) 5).mono ?_));rintro v6 w6⟨rfl,xP,aD⟩;refine fP ?_;exact aaT _ _ ⟨_,rfl,xP,aD.af jg (by simpa using AW),aaU.tr aD,rfl,rfl,rfl,trivial⟩
  ·refine ye ?_;refine au ?_;refine df func160 (.inr (.inl ⟨rfl,rfl⟩)) ⟨rfl,⟨n,c,IM,?_⟩,ae.bG ah⟩;exact⟨fun _=>⟨rfl,rfl⟩,fun h=>absurd h hc,hn,IL⟩
def x1(op:Int)(e f:ET):Bool:=(dw op||j3 e)&&(cY op||j3 f)
def x2(op:Int)(lb lo:Nat):Bool:=(mn op||(lb:Int)==0)&&(lz op||(lo:Int)==0)
theorem alk(op:Int)(e f:ET)(lb lo:Nat):sN op e f lb lo=(x1 op e f&&x2 op lb lo):=by
 unfold sN x1 x2;cases dw op<;>cases j3 e<;>cases cY op<;>cases j3 f<;>cases mn op<;>cases((lb:Int)==0)<;>cases lz op<;>cases((lo:Int)==0)<;>rfl
structure Lk(F:Nat→Prop)(w0 w:World)(j x nv aY:Nat)(av:Option Addr)(b:Value)(n:Nat)(c:Int)(sc:List Value):Prop where
 hj:ak w j (kD (.slice av nv aY) b n c) oD
 hx:ak w x sc 143
 hk:ae [j] w0 w
section
variable{F:Nat→Prop}{w0 w w':World}{j x nv aY:Nat}{av:Option Addr}{b:Value}{n n':Nat}{c c':Int}{sc:List Value}
theorem Lk.nT(h:Lk F w0 w j x nv aY av b n c sc)(hj:ak w' j (kD (.slice av nv aY) b n' c') oD)(hk:ae [j] w w'):Lk F w0 w' j x nv aY av b n' c' sc:=
 ⟨hj,hk.af h.hx (by simpa using h.hx.ne h.hj (by decide)),h.hk.tr hk⟩
theorem Lk.keep(h:Lk F w0 w j x nv aY av b n c sc)(hk:ae [] w w'):Lk F w0 w' j x nv aY av b n c sc:=
 ⟨hk.af h.hj (by simp),hk.af h.hx (by simp),h.hk.tr (ae.bG hk)⟩
end
theorem adH{j nv aY:Nat}{av:Option Addr}{b:Value}:∀(s:Nat) (l:List ST),cu l<s→cu l≤100000→∀{F:Nat→Prop} {w:World} {xl:Value} (deep n:Nat) (c:Int),eM F w xl l→In F w→¬F j→ak w j (kD (.slice av nv aY) b n c) oD→(deep≤13∨(c≠0∧deep≤14))→n≤151→(c=0→n≤150)→aC prog 124 [.pointer (some ⟨j,0,none⟩),xl,.int .i64 (deep:Nat)] w fun r w'=>r=.tuple #[]∧(∃n' c',ak w' j (kD (.slice av nv aY) b n' c') oD∧Tr (dI nv l deep) n c n' c')∧ae [j] w w':=by
 intro s;induction s with
 |zero=>intro l hl;omega
 | succ s ih=>
  intro l hl yV F w xl deep n c h hF zj hJ D3 hn IL;obtain⟨a,cap,rfl⟩:=h.form;have hlen:=DI l;refine aG 123 func124 ?_;refine au ?_;refine cP (fun m σ w'=>∃(i ni:Nat) (ci:Int),i≤l.length∧m=l.length-i∧σ=[(0,.pointer (some ⟨j,0,none⟩)),(1,.slice a l.length cap),(2,.int .i64 (deep:Nat)),(6,.int .i64 (i:Nat))]∧ak w' j (kD (.slice av nv aY) b ni ci) oD∧ae [j] w w'∧ni≤151∧(ci=0→ni≤150)∧
   ((c=0∧ci=0∧dI nv (l.take i) deep n=.ok ni)∨(ci≠0∧((c=0∧dI nv l deep n=.error ci)∨(c≠0∧ni=n∧ci=c))))) l.length _ ?_ ⟨0,n,c,by omega,by omega,rfl,hJ,ae.refl _ _,hn,IL,?_⟩ ?_
  ·exact⟨rfl,rfl,rfl,rfl,trivial⟩
  ·by_cases hc:c=0
   ·exact .inl ⟨hc,hc,by simp[dI]⟩
   ·exact .inr ⟨hc,.inr ⟨hc,rfl,rfl⟩⟩
  rintro m σ w2 nj⟨i,ni,ci,hi,rfl,rfl,C5,an,AX,LJ,gy⟩;have aaV:=C5;unfold kD at aaV;have Q1:(i=l.length∨ci≠0)→Tr (dI nv l deep) n c ni ci:=by
   intro hx;rcases gy with⟨hc,mJ,cR⟩|⟨mJ,hr⟩
   ·have fF:i=l.length:=by
     rcases hx with hx|hx
     ·exact hx
     ·exact absurd mJ hx
    rw[fF,List.take_length]at cR;exact⟨fun h=>absurd hc h,fun _=>⟨fun q hq=>(by rw[cR]at hq;injection hq with hq;exact⟨hq,mJ⟩),fun e he=>(by rw[cR]at he;cases he)⟩,AX,LJ⟩
   ·rcases hr with⟨hc,cR⟩|⟨hc,h1,h2⟩
    ·exact⟨fun h=>absurd hc h,fun _=>⟨fun q hq=>(by rw[cR]at hq;cases hq),fun e he=>(by rw[cR]at he;injection he)⟩,AX,LJ⟩
    ·exact⟨fun _=>⟨h1,h2⟩,fun h=>absurd h hc,AX,LJ⟩
  refine au ?_;by_cases az:i<l.length
  ·by_cases hcz:ci=0
   ·subst hcz;obtain⟨iJ,cR⟩:c=0∧dI nv (l.take i) deep n=.ok ni:=by
     rcases gy with⟨hc,_,cR⟩|⟨mJ,_⟩
     ·exact⟨hc,cR⟩
     ·exact absurd rfl mJ
    have Kr:=LJ rfl;have yC:deep≤13:=D3.elim id fun h=>absurd iJ h.1;clear Q1 gy D3 IL;have cZ:l[i]?=some l[i]:=List.getElem?_eq_getElem az;have bw:=OF cZ;obtain⟨op,v,e,f,lb,lo,hs⟩:∃op v e f lb lo,l[i]=ST.mk op v e f lb lo:=by cases l[i];exact⟨_,_,_,_,_,_,rfl⟩
    rw[hs]at cZ bw;simp only[ll]at bw;have eJ:=Wu cZ cR;obtain⟨bb,q,iF,ce,cf,bv,ov,kx,aZ⟩:=(h.keep an (xW hF zj)).YJ cZ;cases kx;have dd:=hF.keep an;obtain⟨e0,e1,e2,e3,rfl⟩:=jl aZ.he.length;obtain⟨f0,f1,f2,f3,rfl⟩:=jl aZ.hf.length;obtain⟨ab,bh,rfl⟩:=aZ.hb.form;obtain⟨ao,lD,rfl⟩:=aZ.ho.form;refine aU ?_;refine ai _ (bJ i rfl az w2) ?_;refine ai _ (bF [.int .i64 op,.int .i64 v,e0,e1,e2,e3,f0,f1,f2,f3,.slice ab lb.length bh,.slice ao lo.length lD] rfl aZ.whole) ?_;refine aj (bO _ rfl Vn ?_);intro w3 x fX cw aw lK;refine aj (aH _ rfl (by kernel_rfl) lK (by simp[KE]) aZ.stmt.one ?_);intro w4 cz ax fk;rw[bs (by rfl)]at fk;have eA:ae [] w2 w4:=aw.aO ax (by omega);have SN:Lk F w2 w4 j x nv aY av b ni 0 [.int .i64 op,.int .i64 v,e0,e1,e2,e3,f0,f1,f2,f3,.slice ab lb.length bh,.slice ao lo.length lD]:=⟨eA.af C5 (by simp),fk,ae.bG eA⟩;clear aw ax lK fk eA;refine au ?_;refine aj (aV rfl ((Xl SN.hj (deep:Nat) (by omega)).mono ?_));rintro v5 w5⟨rfl,Ft,aE⟩;have Fv:=SN.nT Ft aE;have Cj:=xW dd zj;refine fP ?_;refine bT ?_;refine fx (fun σ' w'=>∃c6,c6=fU (!lx op) (fU (decide (ni+1>150)) (fU (decide ((deep:Int)>12)) 0 4) 3) 2∧Lk F w2 w' j x nv aY av b (ni+1) c6 [.int .i64 op,.int .i64 v,e0,e1,e2,e3,f0,f1,f2,f3,.slice ab lb.length bh,.slice ao lo.length lD]∧Sub [(0,.pointer (some ⟨j,0,none⟩)),(1,.slice (some ⟨bb,q,none⟩) l.length cap),(2,.int .i64 (deep:Nat)),(6,.int .i64 (i:Nat)),(7,.pointer (some ⟨x,0,none⟩))] σ') ?_ ?_
    ·rintro σ' w6⟨c6,om,zk,bH⟩;refine bj bH ?_;refine bT ?_;refine fx (fun σ' w'=>∃c7,c7=fU (!x1 op e f) c6 5∧Lk F w2 w' j x nv aY av b (ni+1) c7 [.int .i64 op,.int .i64 v,e0,e1,e2,e3,f0,f1,f2,f3,.slice ab lb.length bh,.slice ao lo.length lD]∧Sub [(0,.pointer (some ⟨j,0,none⟩)),(1,.slice (some ⟨bb,q,none⟩) l.length cap),(2,.int .i64 (deep:Nat)),(6,.int .i64 (i:Nat)),(7,.pointer (some ⟨x,0,none⟩))] σ') ?_ ?_
     ·rintro σ' w7⟨c7,vF,IN,bH⟩;refine bj bH ?_;refine bT ?_;refine fx (fun σ' w'=>∃c8,c8=fU (!x2 op lb.length lo.length) c7 5∧Lk F w2 w' j x nv aY av b (ni+1) c8 [.int .i64 op,.int .i64 v,e0,e1,e2,e3,f0,f1,f2,f3,.slice ab lb.length bh,.slice ao lo.length lD]∧Sub [(0,.pointer (some ⟨j,0,none⟩)),(1,.slice (some ⟨bb,q,none⟩) l.length cap),(2,.int .i64 (deep:Nat)),(6,.int .i64 (i:Nat)),(7,.pointer (some ⟨x,0,none⟩))] σ') ?_ ?_
      ·rintro σ' w8⟨c8,EX,IP,bH⟩;refine bj bH ?_;refine au ?_;refine bC (fun w'=>ae [] w8 w') [6] bE ?_;have hS:ae [] w8 w8.drew:=(ae.refl _ _).drew;generalize w8.drew=w9 at*;refine tk 0 ?_;refine tk 1 ?_;refine aI 2 _ rfl (fun w9 aq=>aB rfl ((aq.af IP.hx (by simp)).cell rfl)) hS ?_;refine tk 3 ?_;refine aI 4 _ rfl (fun w9 aq=>aB rfl ((aq.af IP.hx (by simp)).cell rfl)) hS ?_;have hN:=rJ op 118 w9;rw[(wk op).2.2.1]at hN;refine a8 5 rfl (aV rfl (hN.mono ?_));rintro v10 bM⟨rfl,rfl⟩;refine⟨fun _=>hS,?_⟩;refine a8 6 rfl (aV rfl ((M9 (hS.af IP.hj (by simp)) v (iA op)).mono ?_));rintro v11 dB⟨rfl,aaW,b8⟩;refine⟨fun h=>absurd h (by simp),?_⟩;refine bm ?_;have oq:nY nv v (iA op) c8=oM nv ni (deep:Nat) (lx op) (sN op e f lb.length lo.length) (iA op) v:=by
        rw[EX,vF,om,alk];exact U3 nv ni (deep:Nat) (lx op) (x1 op e f) (x2 op lb.length lo.length) (iA op) v _ _ _ rfl (by cases x1 op e f<;>cases x2 op lb.length lo.length<;>rfl)
       have tm:=(IP.keep hS).nT aaW b8;generalize nY nv v (iA op) c8=cc at*;clear om vF EX SN Fv zk IN IP hS Ft aE aaW b8 hN aaV;have Q2:cc=0→ni+1≤150∧deep≤12:=fun h=>by have:=A8 (oq.symm.trans h);omega
       --E
       refine bT ?_;refine fx (fun σ' w'=>∃n1 c1,Tr (fun k=>if dw op then gO nv e (deep+1) k else .ok k) (ni+1) cc n1 c1∧Lk F w2 w' j x nv aY av b n1 c1 [.int .i64 op,.int .i64 v,e0,e1,e2,e3,f0,f1,f2,f3,.slice ab lb.length bh,.slice ao lo.length lD]∧Sub [(0,.pointer (some ⟨j,0,none⟩)),(1,.slice (some ⟨bb,q,none⟩) l.length cap),(2,.int .i64 (deep:Nat)),(6,.int .i64 (i:Nat)),(7,.pointer (some ⟨x,0,none⟩))] σ') ?_ ?_
       ·rintro σ' fj⟨n1,c1,g_,yG,bH⟩;refine bj bH ?_;refine bT ?_;refine fx (fun σ' w'=>∃n2 c2,Tr (fun k=>if cY op then gO nv f (deep+1) k else .ok k) n1 c1 n2 c2∧Lk F w2 w' j x nv aY av b n2 c2 [.int .i64 op,.int .i64 v,e0,e1,e2,e3,f0,f1,f2,f3,.slice ab lb.length bh,.slice ao lo.length lD]∧Sub [(0,.pointer (some ⟨j,0,none⟩)),(1,.slice (some ⟨bb,q,none⟩) l.length cap),(2,.int .i64 (deep:Nat)),(6,.int .i64 (i:Nat)),(7,.pointer (some ⟨x,0,none⟩))] σ') ?_ ?_
        ·rintro σ' iW⟨n2,c2,bR,Hn,bH⟩;refine bj bH ?_;have lk:(deep+1≤13∨(c2≠0∧deep+1≤14)):=by
          by_cases hz:cc=0
          ·exact .inl (by have:=Q2 hz;omega)
          ·have h1:=g_.1 hz;have h2:=bR.1 (by rw[h1.2];exact hz);exact .inr ⟨by rw[h2.2,h1.2];exact hz,by omega⟩
         refine lB Hn.hx ?_;refine nM ((deep+1:Nat):Int) ?_;refine aj (aV rfl ((ih lb (by omega) (by omega) (deep+1) n2 c2 (aZ.hb.keep Hn.hk Cj) (dd.keep Hn.hk) zj Hn.hj lk bR.2.2.1 bR.2.2.2).mono ?_));rintro RL nh⟨rfl,⟨n3,c3,Ho,cF⟩,gP⟩;have Hp:=Hn.nT Ho gP;have AA:(deep+1≤13∨(c3≠0∧deep+1≤14)):=by
          rcases lk with h|⟨h,h'⟩
          ·exact .inl h
          ·exact .inr ⟨by rw[(cF.1 h).2];exact h,h'⟩
         refine lB Hp.hx ?_;refine nM ((deep+1:Nat):Int) ?_;refine aj (aV rfl ((ih lo (by omega) (by omega) (deep+1) n3 c3 (aZ.ho.keep Hp.hk Cj) (dd.keep Hp.hk) zj Hp.hj AA cF.2.2.1 cF.2.2.2).mono ?_));rintro v15 tI⟨rfl,⟨n4,c4,aoq,jw⟩,uh⟩;have aaX:=Hp.nT aoq uh;refine nM ((i+1:Nat):Int) ?_;refine au ?_;have ec:=Tr.seq g_ (Jt (DR nv e _ _) (Bg _)) (Tr.seq bR (Jt (DR nv f _ _) (Bg _)) (Tr.seq cF (Bl nv lb _ _) jw));have amc:ae [j] w tI:=an.tr aaX.hk;refine bj ?_ (nj (l.length-(i+1)) [(0,.pointer (some ⟨j,0,none⟩)),(1,.slice (some ⟨bb,q,none⟩) l.length cap),(2,.int .i64 (deep:Nat)),(6,.int .i64 ((i+1:Nat):Int))] tI (by omega)
          ⟨i+1,n4,c4,by omega,rfl,rfl,aaX.hj,amc,ec.2.2.1,ec.2.2.2,?_⟩)
         ·exact⟨rfl,rfl,rfl,rfl,trivial⟩
         ·by_cases hz:cc=0
          ·have hS:kM nv (.mk op v e f lb lo) deep ni=_:=FT nv deep ni op v e f lb lo;rw[←oq,if_neg (by simp[hz])]at hS;have ht:=ec.2.1 hz;cases pK:kM nv (.mk op v e f lb lo) deep ni with
           |ok q'=>
            obtain⟨rfl,rfl⟩:=ht.1 q' (by rw[←pK,hS]);exact .inl ⟨iJ,rfl,by rw[eJ.1,pK]⟩
           |error er=>
            have:=ht.2 er (by rw[←pK,hS]);subst this;exact .inr ⟨YK nv _ _ _ _ pK,.inl ⟨iJ,eJ.2 _ pK⟩⟩
          ·have ht:=ec.1 hz;have pK:kM nv (.mk op v e f lb lo) deep ni=.error cc:=by rw[FT,←oq,if_pos hz]
           rw[ht.2];exact .inr ⟨hz,.inl ⟨iJ,eJ.2 _ pK⟩⟩
        ·intro fin;refine lB yG.hx ?_;have hN:=rJ op 102 fj;rw[(wk op).2.1]at hN;refine aj (aV rfl (hN.mono ?_));rintro RI iW⟨rfl,rfl⟩;cases qv:cY op with
         |false=>
          refine fP ?_;refine tS rfl ?_;refine tU ?_;exact fin _ _ ⟨n1,c1,by simp only[qv];exact Tr.id g_.2.2.1 g_.2.2.2,yG,rfl,rfl,rfl,rfl,rfl,trivial⟩
         |true=>
          refine fP ?_;refine tV rfl ?_;refine cH ?_;refine au ?_;refine ai _ (bF [f0,f1,f2,f3] rfl (yG.hx.range (by rfl))) ?_;refine nM ((deep+1:Nat):Int) ?_;refine aj (aV rfl ((TK _ f (Nat.le_refl _) (by omega) (deep+1) n1 c1 (aZ.hf.keep yG.hk Cj) (dd.keep yG.hk) zj yG.hj (by omega) g_.2.2.1 g_.2.2.2).mono ?_));rintro RL nh⟨rfl,⟨n2,c2,Ho,bR⟩,gP⟩;refine fP ?_;exact fin _ _ ⟨n2,c2,by simp only[qv];exact bR,yG.nT Ho gP,rfl,rfl,rfl,rfl,rfl,trivial⟩
       ·intro fin;refine lB tm.hx ?_;have hN:=rJ op 101 dB;rw[(wk op).1]at hN;refine aj (aV rfl (hN.mono ?_));rintro RI iW⟨rfl,rfl⟩;cases lq:dw op with
        |false=>
         refine fP ?_;refine tS rfl ?_;refine tU ?_;exact fin _ _ ⟨ni+1,cc,by simp only[lq];exact Tr.id (by omega) (fun h=>(Q2 h).1),tm,rfl,rfl,rfl,rfl,rfl,trivial⟩
        |true=>
         refine fP ?_;refine tV rfl ?_;refine cH ?_;refine au ?_;refine ai _ (bF [e0,e1,e2,e3] rfl (tm.hx.range (by rfl))) ?_;refine nM ((deep+1:Nat):Int) ?_;refine aj (aV rfl ((TK _ e (Nat.le_refl _) (by omega) (deep+1) (ni+1) cc (aZ.he.keep tm.hk Cj) (dd.keep tm.hk) zj tm.hj (by omega) (by omega) (fun h=>(Q2 h).1)).mono ?_));rintro RL nh⟨rfl,⟨n2,c2,Ho,bR⟩,gP⟩;refine fP ?_;exact fin _ _ ⟨n2,c2,by simp only[lq];exact bR,tm.nT Ho gP,rfl,rfl,rfl,rfl,rfl,trivial⟩
      ·intro fin;refine lB IN.hx ?_;have hN:=rJ op 98 w7;rw[(wk op).2.2.2.1]at hN;refine aj (aV rfl (hN.mono ?_));rintro v8 w8⟨rfl,rfl⟩;have rn:=IN.hx;have xL:=rJ op 111 w8;rw[(wk op).2.2.2.2]at xL;have stop:∀(is:Bool),is=!x2 op lb.length lo.length→∀(σ:Env),True→aC prog 157 [.pointer (some ⟨j,0,none⟩),.bool is,.int .i64 5] w8 fun r w'=>r=.tuple #[]∧Lk F w2 w' j x nv aY av b (ni+1) (fU (!x2 op lb.length lo.length) c7 5) [.int .i64 op,.int .i64 v,e0,e1,e2,e3,f0,f1,f2,f3,.slice ab lb.length bh,.slice ao lo.length lD]:=fun is SO σ _=>by
        subst SO;exact(sI IN.hj _ 5).mono fun r w' ⟨h1,h2,h3⟩=>⟨h1,IN.nT h2 h3⟩
       cases jt:mn op with
       | true=>
        refine aU ?_;refine aj (aV rfl (xL.mono ?_));rintro v9 w9⟨rfl,rfl⟩;cases yW:lz op with
        |true=>
         refine au ?_;refine aj (aV rfl ((stop false (by simp[x2,jt,yW]) [] trivial).mono ?_));rintro v10 bM⟨rfl,vj⟩;refine fP ?_;exact fin _ _ ⟨_,rfl,vj,rfl,rfl,rfl,rfl,rfl,trivial⟩
        |false=>
         refine aU ?_;refine ai (.bool (!x2 op lb.length lo.length)) (bP .i64 _ _ _ rfl (by simp only[bU,x2,jt,yW];congr 2;rw[Bool.eq_iff_iff];simp[List.length_pos_iff]) _) ?_;refine au ?_;refine aj (aV rfl ((stop _ rfl [] trivial).mono ?_));rintro v10 bM⟨rfl,vj⟩;refine fP ?_;exact fin _ _ ⟨_,rfl,vj,rfl,rfl,rfl,rfl,rfl,trivial⟩
       | false=>
        by_cases Ig:lb.length=0
        ·refine aU ?_;refine aj (aV rfl (xL.mono ?_));rintro v9 w9⟨rfl,rfl⟩;cases yW:lz op with
         |true=>
          refine au ?_;refine aj (aV rfl ((stop false (by simp[x2,jt,yW,Ig]) [] trivial).mono ?_));rintro v10 bM⟨rfl,vj⟩;refine fP ?_;exact fin _ _ ⟨_,rfl,vj,rfl,rfl,rfl,rfl,rfl,trivial⟩
         |false=>
          refine aU ?_;refine ai (.bool (!x2 op lb.length lo.length)) (bP .i64 _ _ _ rfl (by simp only[bU,x2,jt,yW,Ig];congr 2;rw[Bool.eq_iff_iff];simp[List.length_pos_iff]) _) ?_;refine au ?_;refine aj (aV rfl ((stop _ rfl [] trivial).mono ?_));rintro v10 bM⟨rfl,vj⟩;refine fP ?_;exact fin _ _ ⟨_,rfl,vj,rfl,rfl,rfl,rfl,rfl,trivial⟩
        ·refine aU ?_;refine aj (aV rfl ((stop true (by simp[x2,jt];exact .inl (fun h=>by subst h;simp at Ig)) [] trivial).mono ?_));rintro v10 bM⟨rfl,vj⟩;refine fP ?_;exact fin _ _ ⟨_,rfl,vj,rfl,rfl,rfl,rfl,rfl,trivial⟩
     ·intro fin;refine lB zk.hx ?_;have hN:=rJ op 101 w6;rw[(wk op).1]at hN;refine aj (aV rfl (hN.mono ?_));rintro v8 w8⟨rfl,rfl⟩;have stop:∀(w9:World) (is:Bool),is=!x1 op e f→ae [] w8 w9→aC prog 157 [.pointer (some ⟨j,0,none⟩),.bool is,.int .i64 5] w9 fun r w'=>r=.tuple #[]∧Lk F w2 w' j x nv aY av b (ni+1) (fU (!x1 op e f) c6 5) [.int .i64 op,.int .i64 v,e0,e1,e2,e3,f0,f1,f2,f3,.slice ab lb.length bh,.slice ao lo.length lD]:=fun w9 is SO bg=>by
       subst SO;exact(sI (zk.keep bg).hj _ 5).mono fun r w' ⟨h1,h2,h3⟩=>⟨h1,(zk.keep bg).nT h2 h3⟩
      have rn:=zk.hx;cases lq:dw op with
      | true=>
       refine aU ?_;have xL:=rJ op 102 w8;rw[(wk op).2.1]at xL;refine aj (aV rfl (xL.mono ?_));rintro v9 w9⟨rfl,rfl⟩;cases qv:cY op with
       |true=>
        refine au ?_;refine aj (aV rfl ((stop _ false (by simp[x1,lq,qv]) (ae.refl _ _)).mono ?_));rintro v10 bM⟨rfl,vj⟩;refine fP ?_;exact fin _ _ ⟨_,rfl,vj,rfl,rfl,rfl,rfl,rfl,trivial⟩
       |false=>
        refine au ?_;refine ai _ (bF [f0,f1,f2,f3] rfl (rn.range (by rfl))) ?_;refine aj (aV rfl ((M8 (aZ.hf.keep zk.hk Cj)).mono ?_));rintro v10 bM⟨rfl,bV⟩;refine au ?_;refine aj (aV rfl ((stop _ _ (by simp[x1,lq,qv]) bV).mono ?_));rintro v11 dB⟨rfl,tm⟩;refine fP ?_;exact fin _ _ ⟨_,rfl,tm,rfl,rfl,rfl,rfl,rfl,trivial⟩
      | false=>
       refine au ?_;refine ai _ (bF [e0,e1,e2,e3] rfl (rn.range (by rfl))) ?_;refine aj (aV rfl ((M8 (aZ.he.keep zk.hk Cj)).mono ?_));rintro v9 w9⟨rfl,bg⟩;cases gl:j3 e with
       |false=>
        refine au ?_;refine aj (aV rfl ((stop _ true (by simp[x1,lq,gl]) bg).mono ?_));rintro v11 dB⟨rfl,tm⟩;refine fP ?_;exact fin _ _ ⟨_,rfl,tm,rfl,rfl,rfl,rfl,rfl,trivial⟩
       | true=>
        have sy:=bg.af rn (by simp);refine aU ?_;have xL:=rJ op 102 w9;rw[(wk op).2.1]at xL;refine aj (aV rfl (xL.mono ?_));rintro v10 bM⟨rfl,rfl⟩;cases qv:cY op with
        |true=>
         refine au ?_;refine aj (aV rfl ((stop _ false (by simp[x1,lq,qv,gl]) bg).mono ?_));rintro v11 dB⟨rfl,tm⟩;refine fP ?_;exact fin _ _ ⟨_,rfl,tm,rfl,rfl,rfl,rfl,rfl,trivial⟩
        |false=>
         refine au ?_;refine ai _ (bF [f0,f1,f2,f3] rfl (sy.range (by rfl))) ?_;refine aj (aV rfl ((M8 ((aZ.hf.keep zk.hk Cj).keep bg (dd.keep zk.hk).stays)).mono ?_));rintro v11 dB⟨rfl,b8⟩;refine au ?_;refine aj (aV rfl ((stop _ _ (by simp[x1,lq,qv,gl]) (bg.tr b8)).mono ?_));rintro v12 fj⟨rfl,yG⟩;refine fP ?_;exact fin _ _ ⟨_,rfl,yG,rfl,rfl,rfl,rfl,rfl,trivial⟩
    ·intro fin;have jg:=Fv.hx;by_cases h1:op<1
     ·refine aU ?_;refine aj (aV rfl ((sI Fv.hj true 2).mono ?_));rintro v6 w6⟨rfl,xP,aD⟩;refine fP ?_;exact fin _ _ ⟨_,by simp[lx,show¬1≤op by omega],Fv.nT xP aD,rfl,rfl,rfl,rfl,rfl,trivial⟩
     ·refine aU ?_;refine ai (.bool (!lx op)) (bP .i64 _ _ _ rfl (by simp only[bU,lx];congr 2;rw[Bool.eq_iff_iff];simp;omega) w5) ?_;refine au ?_;refine aj (aV rfl ((sI Fv.hj (!lx op) 2).mono ?_));rintro v6 w6⟨rfl,xP,aD⟩;refine fP ?_;exact fin _ _ ⟨_,rfl,Fv.nT xP aD,rfl,rfl,rfl,rfl,rfl,trivial⟩
   ·refine aU ?_;exact bK func124 rfl ⟨rfl,⟨ni,ci,C5,Q1 (.inr hcz)⟩,an⟩
  ·refine aL ?_;refine au ?_;exact bK func124 rfl ⟨rfl,⟨ni,ci,C5,Q1 (.inl (by omega))⟩,an⟩
theorem adg(a b:Option Addr)(m c m' c':Nat):prog.built oD [(0,.agg #[.slice a m c,.slice b m' c'])]=some [Value.slice a m c,.slice b m' c',.int .i64 0,.int .i64 0].toArray:=by kernel_rfl
theorem adI{F:Nat→Prop}{w:World}{x:Value}{vs:List aJ}{body:List ST}(h:iN F w x vs body)(hF:In F w)(Mb:∀y∈vs,y.1.size≤100000)(bw:cu body≤100000):aC prog 84 [x] w fun r w'=>r=.int .i64 (dq vs body)∧ae [] w w':=by
 obtain⟨vv,bv,rfl,hv,hb⟩:=h;obtain⟨av,aY,rfl⟩:=hv.form;obtain⟨ab,bh,rfl⟩:=hb.form;refine aG 72 func84 ?_;refine au ?_;refine aj (bY [.slice av vs.length aY,.slice ab body.length bh] rfl ?_);intro w1 p hp bt ah ny;refine lB ny ?_;refine au ?_;unfold dq;by_cases h8:vs.length>8
 ·rw[if_pos h8];refine ye ?_;refine au ?_;exact ay func84 rfl ⟨rfl,ah⟩
 rw[if_neg h8];refine aL ?_;refine au ?_;refine cP (fun m σ w'=>∃i:Nat,i≤vs.length∧m=vs.length-i∧σ=[(1,.pointer (some ⟨p,0,none⟩)),(3,.int .i64 (aT (vs.take i))),(4,.int .i64 (i:Nat))]∧
  jE [] 0 vs=jE ((vs.take i).map (·.1)) (aT (vs.take i)) (vs.drop i)∧0≤aT (vs.take i)∧aT (vs.take i)≤48∧ak w' p [.slice av vs.length aY,.slice ab body.length bh] 75∧ae [] w w') vs.length _ ?_ ⟨0,by omega,by omega,rfl,by simp[aT],by simp[aT],by simp[aT],ny,ah⟩ ?_
 ·exact⟨rfl,rfl,rfl,trivial⟩
 rintro m σ w2 ih⟨i,hi,rfl,rfl,cR,kb,an_,nk,an⟩;refine lB nk ?_;refine au ?_;by_cases az:i<vs.length
 ·refine ye ?_;refine lB nk ?_;refine au ?_;have cZ:vs[i]?=some vs[i]:=List.getElem?_eq_getElem az;have Q3:=Mb vs[i] (List.getElem_mem _);obtain⟨nm,sz,RS⟩:∃nm sz,vs[i]=(nm,sz):=⟨_,_,rfl⟩;rw[RS]at cZ Q3;replace Q3:nm.size≤100000:=Q3;rw[XL cZ]at cR;have y3:aT (vs.take (i+1))=aT (vs.take i)+sz:=A0 cZ;replace cR:jE [] 0 vs=if mP nm=false then 8 else if(vs.take i).any (p8 (nm,sz))=true then 9 else if sz<1∨sz>48∨aT (vs.take i)+sz>48 then 1 else jE ((vs.take (i+1)).map (·.1)) (aT (vs.take (i+1))) (vs.drop (i+1)):=cR;obtain⟨bb,q,iF,kx,mH,dD⟩:=(hv.keep an hF.stays).at cZ;cases kx;refine ai _ (bJ i rfl az w2) ?_;refine ai _ (bF (dR (nm,sz)) rfl dD) ?_;refine aj (bO _ rfl Wv ?_);intro w3 c Av cw aw hC3;refine aj (aH _ rfl (by kernel_rfl) hC3 (by simp[dR,Qe]) (Vo _) ?_);intro w4 cz ax IQ;rw[bs (by rfl)]at IQ;have eA:ae [] w2 w4:=aw.aO ax (by omega);have tG:=eA.af nk (by simp);have Q4:=an.tr eA;unfold dR at IQ;clear aw ax hC3;refine lB IQ ?_;refine aj (aV rfl ((TJ nm (by omega) w4).mono ?_));rintro v5 w5⟨rfl,rfl⟩;cases ku:mP nm with
  |false=>
   refine au ?_;refine ay func84 rfl ⟨?_,Q4⟩;have cL:jE [] 0 vs=8:=by rw[cR,if_pos ku]
   rw[cL];rfl
  | true=>
   rw[ku,if_neg (by simp)]at cR;refine au ?_;refine cP (fun m σ w'=>∃k:Nat,k≤i∧m=i-k∧σ=[(1,.pointer (some ⟨p,0,none⟩)),(3,.int .i64 (aT (vs.take i))),(4,.int .i64 (i:Nat)),(5,.pointer (some ⟨c,0,none⟩)),(6,.int .i64 (k:Nat))]∧(vs.take k).any (p8 (nm,sz))=false∧ae [] w5 w') i _ ?_ ⟨0,by omega,by omega,rfl,by simp,ae.refl _ _⟩ ?_
   ·exact⟨rfl,rfl,rfl,rfl,rfl,trivial⟩
   rintro m σ w6 ih3⟨k,hk,rfl,rfl,kO,aD⟩;refine au ?_;by_cases Ah:k<i
   ·refine ye ?_;refine au ?_;have hgk:vs[k]?=some (vs[k]'(by omega)):=List.getElem?_eq_getElem (by omega)
    have lE:vs[k]'(by omega)∈vs.take i:=by
     rw[List.mem_iff_getElem?];exact⟨k,by rw[List.getElem?_take,if_pos Ah];exact hgk⟩
    obtain⟨b2,q2,_,RX,dd,dO⟩:=hv.at hgk;cases RX;have aor:(vs.take (k+1)).any (p8 (nm,sz))=p8 (nm,sz) (vs[k]'(by omega)):=by
     rw[List.take_succ_eq_append_getElem (by omega),List.any_append,kO];simp
    generalize vs[k]'(by omega)=y at*
    have ql:=Q4.tr aD;refine bC (fun w'=>ae [] w6 w') [] bE ?_;have hS:ae [] w6 w6.drew:=(ae.refl _ _).drew;generalize w6.drew=w7 at*;refine tk 0 ?_;refine aI 1 _ rfl (fun w9 aq=>aB rfl (((aD.tr aq).af tG (by simp)).cell rfl)) hS ?_;refine tk 2 ?_;refine bD 3 _ rfl (fun w=>bJ k rfl (by omega) w) ?_;refine tk 4 ?_;refine aI 5 (.string y.1) rfl (fun w9 aq=>aB rfl (ft dO (ql.tr aq) (hF _ dd) (by simp) 0 (.string y.1) rfl)) hS ?_;refine tk 6 ?_;refine aI 7 _ rfl (fun w9 aq=>aB rfl (((aD.tr aq).af IQ (by simp)).cell rfl)) hS ?_;refine bD 8 (.bool (p8 (nm,sz) y)) rfl (fun w=>o_ y.1 nm _ rfl rfl rfl rfl w) ?_;refine bm ?_;cases vH:p8 (nm,sz) y with
    |true=>
     refine au ?_;refine ay func84 rfl ⟨?_,ql.tr hS⟩;have cL:jE [] 0 vs=9:=by rw[cR,if_pos (List.any_eq_true.2 ⟨_,lE,vH⟩)]
     rw[cL];rfl
    |false=>
     refine nM ((k+1:Nat):Int) ?_;refine au ?_;refine bj ?_ (ih3 (i-(k+1)) [(1,.pointer (some ⟨p,0,none⟩)),(3,.int .i64 (aT (vs.take i))),(4,.int .i64 (i:Nat)),(5,.pointer (some ⟨c,0,none⟩)),(6,.int .i64 ((k+1:Nat):Int))] w7 (by omega) ⟨k+1,by omega,rfl,rfl,by rw[aor,vH],aD.tr hS⟩);exact⟨rfl,rfl,rfl,rfl,rfl,trivial⟩
   ·have aos:k=i:=by omega
    subst aos;rw[if_neg (by rw[kO];simp)]at cR;have hC6:=aD.af IQ (by simp);have IJ:=aD.af tG (by simp);have ql:=Q4.tr aD;refine aL ?_;refine au ?_;by_cases h1:sz<1
    ·refine aU ?_;refine ay func84 rfl ⟨?_,ql⟩;have cL:jE [] 0 vs=1:=by rw[cR,if_pos (.inl h1)]
     rw[cL];rfl
    ·by_cases h2:sz>48
     ·refine aU ?_;refine ay func84 rfl ⟨?_,ql⟩;have cL:jE [] 0 vs=1:=by rw[cR,if_pos (.inr (.inl h2))]
      rw[cL];rfl
     ·refine aU ?_;refine nM (aT (vs.take (k+1))) ?_;by_cases h3:aT (vs.take k)+sz>48
      ·refine aU ?_;refine ay func84 rfl ⟨?_,ql⟩;have cL:jE [] 0 vs=1:=by rw[cR,if_pos (.inr (.inr h3))]
       rw[cL];rfl
      ·rw[if_neg (by omega)]at cR;refine aU ?_;refine nM (aT (vs.take (k+1))) ?_;refine nM ((k+1:Nat):Int) ?_;refine au ?_;refine bj ?_ (ih (vs.length-(k+1)) [(1,.pointer (some ⟨p,0,none⟩)),(3,.int .i64 (aT (vs.take (k+1)))),(4,.int .i64 ((k+1:Nat):Int))] w6 (by omega) ⟨k+1,by omega,rfl,rfl,cR,by omega,by omega,IJ,ql⟩);exact⟨rfl,rfl,rfl,trivial⟩
 ·refine aL ?_;refine au ?_;have hz:jE [] 0 vs=0:=by rw[cR,List.drop_eq_nil_of_le (by omega)];rfl
  rw[hz];simp only[ne_eq,not_true_eq_false,if_false];refine ai _ (bF [.slice av vs.length aY,.slice ab body.length bh] rfl (nk.range (by rfl))) ?_;refine ai _ (bL _ rfl rfl (adg _ _ _ _ _ _) w2) ?_;refine aj (bY [.slice av vs.length aY,.slice ab body.length bh,.int .i64 0,.int .i64 0] rfl ?_);intro w3 j hj cw aw hJ3;have aot:ak w3 j (kD (.slice av vs.length aY) (.slice ab body.length bh) 0 0) oD:=hJ3;have y_:=aw.af nk (by simp);have Q5:=an.tr aw;refine lB y_ ?_;refine aj (aV rfl ((adH _ body (Nat.lt_succ_self _) bw 0 0 0 (hb.keep Q5 hF.stays) (hF.keep Q5) (fun h=>by have:=hF j h;have:=an.size;omega) aot (.inl (by omega)) (by omega) (fun _=>by omega)).mono ?_));rintro v4 w4⟨rfl,⟨n4,c4,MS,jw⟩,ax⟩;have aaY:=MS;unfold kD at aaY;refine lB aaY ?_;refine au ?_;refine ay func84 rfl ⟨?_,Q5.aO ax (by have:=an.size;omega)⟩;have ht:=jw.2.1 rfl;cases hx:dI vs.length body 0 0 with
  |ok q=>rw[(ht.1 q hx).2];rfl
  |error e=>rw[ht.2 e hx];rfl
end E
end Go.Proofs.YtoigoojdbpbhoagGreatDoor
