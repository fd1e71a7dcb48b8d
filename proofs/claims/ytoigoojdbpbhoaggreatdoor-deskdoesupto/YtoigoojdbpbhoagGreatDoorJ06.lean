/- Texts PgD PgE PgF PgG PgH ParE PgI IrA IrB IrC IrD IrE IrF. -/
import Derived.Test.YtoigoojdbpbhoagGreatDoorJ05
import Derived.Test.YtoigoojdbpbhoagGreatDoorJ03
import Derived.Test.YtoigoojdbpbhoagGreatDoorJ04
namespace Go.Proofs.YtoigoojdbpbhoagGreatDoor
set_option maxRecDepth 20000
set_option maxHeartbeats 4000000
namespace E
open Go.Proofs.Tryz
section
variable{w0 w w':World}{lv vv:Value}{ts:List Tok}{fin b i:Nat}{vs:List aJ}
theorem adD{g most:Nat}{of:Nat→List UInt8}(hg:Fo g of most)(t:Tok)(hw:Lw w){b1 b2:Nat}(h1:ak w b1 [.func (.func g) #[] #[]] 78)(h2:ak w b2 [.int .i64 0] 3):aC prog 267 [.agg (dr t).toArray,.pointer (some ⟨b1,0,none⟩),.pointer (some ⟨b2,0,none⟩)] w fun r w'=>r=.bool (decide (0<j5 of t.text 1 most))∧ae [b2] w w'∧ak w' b2 [.int .i64 (j5 of t.text 1 most:Nat)] 3:=by
 refine aG 11 func267 ?_;refine au ?_;refine aj (bY (dr t) rfl ?_);intro w1 b3 Hi bt ah gl;refine lB gl ?_;refine lB (ah.af h1 (by simp)) ?_;refine oC (aiY hg t.text (hw.keep ah)) ?_;rintro r w2⟨rfl,rfl⟩;obtain⟨kk,jQ⟩:∃kk,kk=j5 of t.text 1 most:=⟨_,rfl⟩;rw[←jQ];refine aj (aH [.int .i64 ((kk:Nat):Int)] rfl oH (ah.af h2 (by simp)) (by simp) (by simp;rfl) ?_);intro w3 cw aw fe;rw[bs (by rfl)]at fe;have bn:ae [b2] w w3:=(ae.bG ah).tr aw;refine lB fe ?_;by_cases h0:0<kk
 ·refine ye ?_;refine au ?_;exact ay func267 rfl ⟨by simp[h0],bn,fe⟩
 ·refine aL ?_;refine au ?_;exact ay func267 rfl ⟨by simp[h0],bn,fe⟩
theorem afq(eU:Ct ts){g most:Nat}{of:Nat→List UInt8}(hg:Fo g of most):lR ts fin of most i=aF (eu ts fin [40] i) fun j=>aF (jM ts fin (fun t=>decide (0<j5 of t.text 1 most)) j) fun q=>.ok (j5 of q.1.text 1 most,q.2):=by
 unfold lR;congr 1;funext j;unfold jM;rcases Bc ts j with ht|⟨t,ht⟩
 ·rw[ht,UR ht];rfl
 ·rw[ht,UQ eU.uj ht hg.head most 1 (by omega) (by omega)];by_cases h0:j5 of t.text 1 most=0
  ·rw[if_pos h0];simp[h0,aF]
  ·rw[if_neg h0];have:0<j5 of t.text 1 most:=by omega
   simp[this,aF]
theorem VU(eU:Ct ts)(zi:Lw w0)(h:Rd w0 lv ts fin b vv vs w i){g most:Nat}{of:Nat→List UInt8}(hg:Fo g of most)(deep:Nat):r7 251 [.pointer (some ⟨b,0,none⟩),.int .i64 (deep:Nat),.func (.func g) #[] #[]] w0 w (aF (if 12<deep then .error (dG ts fin 4 i)else .ok i) (lR ts fin of most)) fun q r w'=>r=.int .i64 (q.1:Nat)∧Rd w0 lv ts fin b vv vs w' q.2∧ae [b] w w':=by
 refine mO 19 func251 ?_;refine au ?_;refine aj (bY [.func (.func g) #[] #[]] rfl ?_);intro w1 b5 Ad bt ah gl;have h1:=h.aA ah;have aaC:=h.lt;refine au ?_;by_cases hd:12<deep
 ·rw[if_pos hd];refine ye ?_;refine oC (YX h1) ?_;rintro r w2⟨rfl,rfl⟩;refine dW func251 rfl rfl (dF (fst:=[]) (cap:=[]) rfl rfl rfl rfl (by decide+kernel) ((Jk 4 _ _).mono ?_ ?_))
  ·intro v w' hf;exact hf.elim
  ·rintro v w'⟨rfl,rfl⟩;refine⟨dG ts fin 4 i,rfl,?_,h1.kp⟩;have:(dG ts fin 4 i).1=4:=by
    unfold dG;split<;>rfl
   unfold Fl;rw[this]
 ·rw[if_neg hd];refine aL ?_;refine au ?_;obtain⟨bq,fA⟩:∃bq,bq=aF (.ok i) (lR ts fin of most):=⟨_,rfl⟩;rw[←fA];have g_:bq=aF (eu ts fin [40] i) fun j=>aF (jM ts fin (fun t=>decide (0<j5 of t.text 1 most)) j) fun q=>.ok (j5 of q.1.text 1 most,q.2):=by
   rw[fA];exact afq eU hg
  refine dW func251 rfl rfl (dF (fst:=[]) (cap:=[]) rfl rfl rfl rfl (by decide+kernel) (End.mono (DK eU h1 [40] (by decide)) ?_ ?_))
  rotate_left
  ·rintro v w2⟨e,hX,r⟩;exact⟨e,by rw[g_,hX];rfl,r⟩
  rintro r w2⟨j,hX,h2,an⟩;rw[hX]at g_;have bR:bq=aF (jM ts fin (fun t=>decide (0<j5 of t.text 1 most)) j) fun q=>.ok (j5 of q.1.text 1 most,q.2):=g_;have oB:=an.af gl (by simp;omega);refine au ?_;refine aj (bO _ rfl Ww ?_);intro w3 b7 aog cw aw fe;refine aj (aH [.int .i64 0] rfl oH fe (by simp) (by simp;rfl) ?_);intro w4 cz ax hU;rw[bs (by rfl)]at hU;have eA:ae [] w2 w4:=aw.aO ax (by omega);have h4:=h2.aA eA;have nq:=eA.af oB (by simp);have dJ:ae [b] w w4:=((ae.bG ah).tr an).dt eA;have eC:w.heap.size≤b7:=by have:=ah.size;have:=an.size;omega
  refine au ?_;have hp:=JR (g:=267) (cap:=[.pointer (some ⟨b5,0,none⟩),.pointer (some ⟨b7,0,none⟩)]) (fun t=>decide (0<j5 of t.text 1 most)) [b7] (fun t w'=>ak w' b7 [.int .i64 (j5 of t.text 1 most:Nat)] 3) (by decide+kernel) h4
   (fun k hk=>by simp at hk;subst hk;exact⟨by have:=h.kp.size;omega,_,hU⟩)
   (fun t w5 _ hk=>adD hg t (zi.keep (h4.kp.tr hk)) (hk.af nq (by simp)) (hk.af hU (by simp)))
   (fun t w5 w6 fp hE hk hn=>hk.af hE (fun hm=>hn b7 hm (by simp)))
  refine dW func251 rfl rfl (dF (fst:=[]) (cap:=[]) rfl rfl rfl rfl (by decide+kernel) (End.mono hp ?_ ?_))
  rotate_left
  ·rintro v w5⟨e,hX,r⟩;exact⟨e,by rw[bR,hX];rfl,r⟩
  rintro r w5⟨q,hX,rfl,h5,aE,hE5⟩;refine lB hE5 ?_;refine au ?_;refine ay func251 rfl ⟨(j5 of q.1.text 1 most,q.2),by rw[bR,hX];rfl,rfl,h5,dJ.trans aE (fun k hk=>?_)⟩;simp at hk;rcases hk with rfl|rfl
  ·exact .inl (by simp)
  ·exact .inr eC
theorem adE(n:List UInt8)(z:Int){t:Tok}{b3:Nat}(hb:ak w b3 (dr t) 231):aC prog 269 [.agg (dR (str n,z)).toArray,.pointer (some ⟨b3,0,none⟩)] w fun r w'=>r=.bool (n==t.text)∧ae [] w w':=by
 refine aG 9 func269 ?_;refine au ?_;refine aj (bY (dR (str n,z)) rfl ?_);intro w1 b2 Ch bt ah gl;refine lB gl ?_;refine lB (ah.af hb (by simp)) ?_;refine ai _ (Gm n t.text (n==t.text) rfl rfl rfl rfl w1) ?_;refine au ?_;exact ay func269 rfl ⟨rfl,ah⟩
def LA(vs:List aJ)(s:List UInt8):Int:=match pw vs s with
 |some k=>(k:Nat)
 |none=>-1
theorem afr{B:Nat}(hv:Own w B 137 2 vv vs.length (vs.flatMap dR))(hl:vs.length≤100000){t:Tok}{b3:Nat}(hb:ak w b3 (dr t) 231):aC prog 220 [vv,.func (.func 269) #[] #[.pointer (some ⟨b3,0,none⟩)]] w fun r w'=>r=.int .i64 (LA vs t.text)∧ae [] w w':=by
 obtain⟨av,cv,rfl⟩:=hv.form;refine aG 19 func220 ?_;refine au ?_;refine cP (fun m σ w'=>∃k:Nat,k≤vs.length∧m=vs.length-k∧σ=[(0,.slice av vs.length cv),(1,.func (.func 269) #[] #[.pointer (some ⟨b3,0,none⟩)]),(7,.int .i64 (vs.length:Nat)),(8,.int .i64 (k:Nat))]∧
  pw vs t.text=(pw (vs.drop k) t.text).map (·+k)∧ae [] w w') vs.length _ ?_ ⟨0,by omega,by omega,rfl,by simp,ae.refl _ _⟩ ?_
 ·exact⟨rfl,rfl,rfl,rfl,trivial⟩
 rintro m σ w2 ih⟨k,hk,rfl,rfl,ky,an⟩;refine au ?_;by_cases az:k<vs.length
 ·have cZ:vs[k]?=some vs[k]:=List.getElem?_eq_getElem az;have ig:vs.drop k=vs[k]::vs.drop (k+1):=List.drop_eq_getElem_cons az;obtain⟨y,hy⟩:∃y,y=vs[k]:=⟨_,rfl⟩;rw[←hy]at cZ ig;have hf:=wy (f:=dR) (k:=2) (fun p _=>rfl) cZ;obtain⟨g,cap,kx,dD⟩:=(hv.keep an (by simp)).range (q:=k*2) (cs:=dR y) (by exact hf) (by omega);injection kx with kx _ _;subst kx;obtain⟨n,z⟩:=y;obtain⟨l,rfl⟩:∃l,n=str l:=⟨n.data.toList,(F2 n).symm⟩;refine ye ?_;refine au ?_;refine ai _ (bJ k rfl az w2) ?_;refine ai _ (bF (dR (str l,z)) rfl (by rw[Nat.zero_add];exact dD)) ?_;refine aj (aV (fst:=[]) (cap:=[.pointer (some ⟨b3,0,none⟩)]) rfl ((adE l z (an.af hb (by simp))).mono ?_));rintro r w3⟨rfl,aw⟩;rw[ig,UX]at ky;have el:(str l).data.toList=l:=rM l;rw[show((str l,z):aJ).1.data.toList=l from el]at ky;cases hq:l==t.text with
  |true=>
   rw[hq,if_pos rfl]at ky;refine au ?_;refine ay func220 rfl ⟨?_,an.tr aw⟩;unfold LA;rw[ky];simp
  | false=>
   rw[hq,if_neg (by decide)]at ky;refine nM ((k+1:Nat):Int) ?_;refine au ?_;refine bj ?_ (ih _ _ _ ?_ ⟨k+1,by omega,rfl,rfl,?_,an.tr aw⟩)
   ·exact⟨rfl,rfl,rfl,rfl,trivial⟩
   ·omega
   ·rw[ky];cases pw (vs.drop (k+1)) t.text with
    |none=>rfl
    |some j=>simp;omega
 ·refine aL ?_;refine au ?_;refine ay func220 rfl ⟨?_,an⟩;unfold LA;rw[ky,List.drop_of_length_le (by omega)];rfl
theorem M7(h:Rd w0 lv ts fin b vv vs w i)(du:vs.length≤100000):r7 253 [.pointer (some ⟨b,0,none⟩)] w0 w (kq ts fin vs i) fun q r w'=>r=.int .i64 (q.1:Nat)∧Rd w0 lv ts fin b vv vs w' q.2∧ae [b] w w':=by
 refine mO 19 func253 ?_;refine au ?_;have aaC:=h.lt;obtain⟨bq,fA⟩:∃bq,bq=kq ts fin vs i:=⟨_,rfl⟩;rw[←fA];have g_:bq=aF (jM ts fin (fun t=>rU t.text) i) fun q=>match pw vs q.1.text with|some k=>.ok (k,q.2)|none=>.error (dG ts fin 10 i):=by
  rw[fA];unfold kq;rw[VP];cases jM ts fin (fun t=>rU t.text) i<;>rfl
 refine dW func253 rfl rfl (dF (fst:=[]) (cap:=[]) rfl rfl rfl rfl (by decide+kernel) (End.mono (TI h) ?_ ?_))
 rotate_left
 ·rintro v w2⟨e,hX,r⟩;exact⟨e,by rw[g_,hX];rfl,r⟩
 rintro r w1⟨q,hX,rfl,h1,ah⟩;obtain⟨t,j⟩:=q;have cZ:=(aiX hX).1;rw[hX]at g_;have bR:bq=match pw vs t.text with|some k=>.ok (k,j)|none=>.error (dG ts fin 10 i):=g_
 refine aj (bO _ rfl wx ?_);intro w2 b3 Hi cE an oB;refine aj (aH (dr t) rfl qK oB (by simp[dn,dr]) (mN _ _ _ _) ?_);intro w3 cw aw fe;rw[bs (by rfl)]at fe;have bZ:ae [] w1 w3:=an.aO aw (by omega);have h3:=h1.aA bZ;obtain⟨a3,c3,aQ,_⟩:=h3.af;refine lB aQ ?_;refine oC (afr h3.var du fe) ?_;rintro r w4⟨rfl,ax⟩;have h4:=h3.aA ax;have hU:=ax.af fe (by simp);refine au ?_;unfold LA;cases II:pw vs t.text with
 |some k=>
  rw[II]at bR;refine aL ?_;refine au ?_;exact ay func253 rfl ⟨(k,j),bR,rfl,h4,(ah.dt bZ).dt ax⟩
 | none=>
  rw[II]at bR;refine ye ?_;refine lB hU ?_;refine dW func253 rfl rfl (dF (fst:=[]) (cap:=[]) rfl rfl rfl rfl (by decide+kernel) ((Jk 10 _ _).mono ?_ ?_))
  ·intro v w' hf;exact hf.elim
  ·rintro v w'⟨rfl,rfl⟩;exact⟨dG ts fin 10 i,bR,by rw[N1 cZ],h4.kp⟩
end
section
variable{w0 w w':World}{lv vv:Value}{ts:List Tok}{fin b i:Nat}{vs:List aJ}
theorem Rd.put{c:Nat}{L:List Value}{e:TypeId}(h:Rd w0 lv ts fin b vv vs w i)(hb:ak w c L e)(hc:w0.heap.size≤c)(hk:ae [c] w w')(he:e≠231∧e≠137∧e≠238):Rd w0 lv ts fin b vv vs w' i:=
 h.Zo hk (fun k aK=>by simp at aK;subst aK;exact⟨hc,L,e,hb,he.1,he.2.1,he.2.2⟩)
theorem Rd.app{B e size ln m g:Nat}{sl:Value}{xs:List Value}(h:Rd w0 lv ts fin b vv vs w i)(bW:Own w B e size sl ln xs)(hB:w0.heap.size≤B)(he:e≠231∧e≠137∧e≠238) (gy:(sl.ownBlock=some g∧ln+m≤sK sl∧ae [g] w w')∨(g=w.heap.size∧ae [] w w'∧w'.heap.size=w.heap.size+1)):Rd w0 lv ts fin b vv vs w' i:=by
 rcases gy with⟨h1,_,h2⟩|⟨_,h2,_⟩
 ·rcases bW.2 with⟨hv,_⟩|⟨g',c',LB,hv,hB',vR,_⟩
  ·rw[hv]at h1;simp[Value.ownBlock]at h1
  ·rw[hv]at h1;simp[Value.ownBlock]at h1;subst h1;exact h.put vR (by omega) h2 he
 ·exact h.aA h2
def SI(w w':World)(r:Value)(t:ET):Prop:=∃(cs:List Value) (F:Nat→Prop),r=.agg cs.toArray∧dY F w' cs t∧∀c,F c→w.heap.size≤c∧c<w'.heap.size
theorem Xd(eU:Ct ts)(zi:Lw w0)(du:vs.length≤100000):∀(f deep i:Nat) {w:World},deep+f=13→Rd w0 lv ts fin b vv vs w i→r7 254 [.pointer (some ⟨b,0,none⟩),.int .i64 (deep:Nat)] w0 w (gM ts fin vs f i) fun q r w'=>SI w w' r q.1∧Rd w0 lv ts fin b vv vs w' q.2∧ae [b] w w':=by
 intro f;induction f using Nat.strongRecOn with
 |_ f ih=>
 intro deep i w ff h;have o6:=h.lt;refine mO 42 func254 ?_;refine au ?_;refine aj (bO _ rfl J8 ?_);intro w1 b4 Ey bt ah gl;have h1:=h.aA ah;refine au ?_;obtain⟨one,iQ⟩:∃one,one=gM ts fin vs (f-1):=⟨_,rfl⟩;rw[Xe ts fin vs ff i,←iQ];obtain⟨bq,fA⟩:∃bq,bq=aF (aF (if 12<deep then .error (dG ts fin 4 i)else .ok i) (lR ts fin sQ 8)) (fun(k,i1)=>wQ ts fin vs one k i1):=⟨_,rfl⟩;rw[←fA];refine dW func254 rfl rfl (dF (fst:=[]) (cap:=[]) rfl rfl rfl rfl (by decide+kernel) (End.mono (VU eU zi h1 akx deep) ?_ ?_))
 rotate_left
 ·rintro v w2⟨e,hX,r⟩;exact⟨e,by rw[fA,hX];rfl,r⟩
 rintro r w2⟨⟨kk,i1⟩,cm,rfl,h2,an⟩;rw[cm]at fA;have g_:bq=wQ ts fin vs one kk i1:=fA;have hd:¬12<deep:=by
  intro hd;rw[if_pos hd]at cm;cases cm
 rw[if_neg hd]at cm;obtain⟨_,_,aaD,aaE⟩:=Bb (show lR ts fin sQ 8 i=.ok (kk,i1) from cm)
 dsimp only at aaD aaE
 have oB:=an.af gl (by simp;omega);have br:ae [b] w w2:=(ae.bG ah).tr an;have Ik:w1.heap.size≤w2.heap.size:=an.size;refine ai _ (bL _ rfl rfl (UY (kk:Nat)) w2) ?_;refine aj (bO _ rfl J8 ?_);intro w3 b5 Ad cw aw fe;refine aj (aH (xC (kk:Nat) 0 0 (.slice none 0 0)) rfl zu fe (by simp[xC]) (DU rfl) ?_);intro w4 cz ax hU;rw[bs (by rfl)]at hU;have eA:ae [] w2 w4:=aw.aO ax (by omega);have h4:=h2.aA eA;have rG:=eA.af oB (by simp);have dJ:ae [b] w w4:=br.dt eA;obtain⟨B,hB⟩:∃B,B=w4.heap.size:=⟨_,rfl⟩;have tG:b4<B:=by have:=rG.lt;omega
 have vP:b5<B:=by have:=hU.lt;omega
 have hbB:b<B:=by have:=dJ.size;omega
 have aaF:b4≠b5:=by omega
 have aaG:b≠b4:=by omega
 have aaH:b≠b5:=by omega
 have uD:w.heap.size≤B:=by have:=dJ.size;omega
 have Ez:w0.heap.size≤b5:=by have:=h.kp.size;omega
 refine aP ?_;refine bT ?_;refine fx (fun σ' w'=>∃(n:Int) (v i3:Nat),bq=BS ts fin one kk n v i3∧Rd w0 lv ts fin b vv vs w' i3∧
  ak w' b5 (xC (kk:Nat) (v:Nat) n (.slice none 0 0)) 141∧ak w' b4 [.int .i64 0,.int .i64 0,.int .i64 0,.slice none 0 0] 141∧ae [b] w w'∧B≤w'.heap.size∧
  Sub [(0,.pointer (some ⟨b,0,none⟩)),(1,.int .i64 (deep:Nat)),(4,.pointer (some ⟨b4,0,none⟩)),(5,.pointer (some ⟨b5,0,none⟩))] σ') ?_ ?_
 rotate_left
 ·intro dy;refine bT ?_;refine cH ?_;refine aP ?_;refine lB hU ?_;refine aP ?_;refine pc ?_;refine bT ?_;refine cH ?_;by_cases oS:kk=1
  ·refine ye ?_;refine aP ?_;refine cH ?_;refine aP ?_;have bR:bq=aF (jM ts fin (fun t=>t.num) i1) fun q=>uc ts fin vs one kk q.1.val q.2:=by
    rw[g_];unfold wQ;rw[if_pos oS,Xc];cases jM ts fin (fun t=>t.num) i1<;>rfl
   refine dW func254 rfl rfl (dF (fst:=[]) (cap:=[]) rfl rfl rfl rfl (by decide+kernel) (End.mono (Ud h4) ?_ ?_))
   rotate_left
   ·rintro v w5⟨e,hX,r⟩;exact⟨e,by rw[bR,hX];rfl,r⟩
   rintro r w5⟨⟨t,j⟩,hX,rfl,h5,aE⟩;rw[hX]at bR;have cF:bq=uc ts fin vs one kk t.val j:=bR;have iz:=aE.af hU (by simp;omega);have tM:=aE.af rG (by simp;omega);refine ai _ (Nq 3 (dr t) rfl rfl (by decide+kernel) rfl w5) ?_;refine aP ?_;refine aj (aH [.int .i64 t.val] rfl VV iz (by simp[xC]) (by simp;rfl) ?_);intro w6 iI aD iK;have jx:b_ (xC (kk:Nat) 0 0 (.slice none 0 0)) 2 [.int .i64 t.val]=xC (kk:Nat) 0 t.val (.slice none 0 0):=rfl;rw[jx]at iK;refine aP ?_;refine dy _ _ ⟨t.val,0,j,?_,h5.put iz Ez aD (by decide),iK,aD.af tM (by simp;omega),(dJ.tr aE).aO aD (by omega),?_,rfl,rfl,rfl,rfl,trivial⟩
   ·rw[cF];unfold uc;rw[if_neg (by omega)];rfl
   ·have:=aE.size;have:=aD.size;omega
  ·refine aL ?_;refine aP ?_;have bR:bq=uc ts fin vs one kk 0 i1:=by
    rw[g_];unfold wQ;rw[if_neg oS];rfl
   by_cases C3:kk=2∨kk=3
   ·have cF:bq=aF (kq ts fin vs i1) fun q=>BS ts fin one kk 0 q.1 q.2:=by
     rw[bR];unfold uc;rw[if_pos C3]
    have key:∀(r:Value) (w5:World),(∃a,kq ts fin vs i1=.ok a∧r=.int .i64 (a.1:Nat)∧Rd w0 lv ts fin b vv vs w5 a.2∧ae [b] w4 w5)→∃v j:Nat,r=.int .i64 (v:Nat)∧bq=BS ts fin one kk 0 v j∧Rd w0 lv ts fin b vv vs w5 j∧ae [b] w4 w5:=by
     rintro r w5⟨⟨v,j⟩,hX,hr,h5,aE⟩;exact⟨v,j,hr,by rw[cF,hX];rfl,h5,aE⟩
    rcases C3 with EZ|EI
    ·refine bT ?_;refine bT ?_;refine cH ?_;refine ye ?_;refine aP ?_;refine cH ?_;refine aP ?_;refine dW func254 rfl rfl (dF (fst:=[]) (cap:=[]) rfl rfl rfl rfl (by decide+kernel) (End.mono (M7 h4 du) ?_ ?_))
     rotate_left
     ·rintro v w5⟨e,hX,r⟩;exact⟨e,by rw[cF,hX];rfl,r⟩
     intro r w5 hh;obtain⟨v,j,rfl,jw,h5,aE⟩:=key r w5 hh;have iz:=aE.af hU (by simp;omega);have tM:=aE.af rG (by simp;omega);refine aP ?_;refine aj (aH [.int .i64 ((v:Nat):Int)] rfl oH iz (by simp[xC]) (by simp;rfl) ?_);intro w6 iI aD iK;have jx:b_ (xC (kk:Nat) 0 0 (.slice none 0 0)) 1 [.int .i64 ((v:Nat):Int)]=xC (kk:Nat) (v:Nat) 0 (.slice none 0 0):=rfl;rw[jx]at iK;refine aP ?_;refine dy _ _ ⟨0,v,j,jw,h5.put iz Ez aD (by decide),iK,aD.af tM (by simp;omega),(dJ.tr aE).aO aD (by omega),?_,rfl,rfl,rfl,rfl,trivial⟩;have:=aE.size;have:=aD.size;omega
    ·refine bT ?_;refine bT ?_;refine cH ?_;refine aL ?_;refine aP ?_;refine cH ?_;refine ye ?_;refine aP ?_;refine cH ?_;refine aP ?_;refine dW func254 rfl rfl (dF (fst:=[]) (cap:=[]) rfl rfl rfl rfl (by decide+kernel) (End.mono (M7 h4 du) ?_ ?_))
     rotate_left
     ·rintro v w5⟨e,hX,r⟩;exact⟨e,by rw[cF,hX];rfl,r⟩
     intro r w5 hh;obtain⟨v,j,rfl,jw,h5,aE⟩:=key r w5 hh;have iz:=aE.af hU (by simp;omega);have tM:=aE.af rG (by simp;omega);refine aP ?_;refine aj (aH [.int .i64 ((v:Nat):Int)] rfl oH iz (by simp[xC]) (by simp;rfl) ?_);intro w6 iI aD iK;have jx:b_ (xC (kk:Nat) 0 0 (.slice none 0 0)) 1 [.int .i64 ((v:Nat):Int)]=xC (kk:Nat) (v:Nat) 0 (.slice none 0 0):=rfl;rw[jx]at iK;refine aP ?_;refine dy _ _ ⟨0,v,j,jw,h5.put iz Ez aD (by decide),iK,aD.af tM (by simp;omega),(dJ.tr aE).aO aD (by omega),?_,rfl,rfl,rfl,rfl,trivial⟩;have:=aE.size;have:=aD.size;omega
   ·refine bT ?_;refine bT ?_;refine cH ?_;refine aL ?_;refine aP ?_;refine cH ?_;refine aL ?_;refine aP ?_;refine dy _ _ ⟨0,0,i1,?_,h4,hU,rG,dJ,by omega,rfl,rfl,rfl,rfl,trivial⟩;rw[bR];unfold uc;rw[if_neg C3];rfl
 rintro σ' w6⟨n,v,i3,cF,h6,iK,uN,fy,QT,bH⟩;refine bj bH ?_;obtain⟨parts,Kq⟩:∃parts,parts=(partsOf ((kk:Nat):Int)).toNat:=⟨_,rfl⟩;have hpr:=To kk aaD aaE;have gT:parts≤2:=by omega
 have pO:partsOf ((kk:Nat):Int)=(parts:Nat):=by omega
 refine bT ?_;refine bT ?_;refine cH ?_;refine aP ?_;refine lB iK ?_;refine oC (NT ((kk:Nat):Int) w6) ?_;rintro r w6'⟨rfl,rfl⟩;rw[pO];refine aP ?_;refine pc ?_;refine cP (fun m σ w'=>∃(k j:Nat) (l:List ET) (sl:Value),k≤parts∧m=parts-k∧sl.oneCell'=true∧σ=[(0,.pointer (some ⟨b,0,none⟩)),(1,.int .i64 (deep:Nat)),(4,.pointer (some ⟨b4,0,none⟩)),(5,.pointer (some ⟨b5,0,none⟩)),(26,.int .i64 (parts:Nat)),(27,.int .i64 (k:Nat))]∧
  bq=aF (kI one (parts-k) j) (fun(r,j)=>qU ts fin kk n v (l++r) j)∧l.length=k∧nX w' B sl l∧Rd w0 lv ts fin b vv vs w' j∧
  ak w' b5 (xC (kk:Nat) (v:Nat) n sl) 141∧ak w' b4 [.int .i64 0,.int .i64 0,.int .i64 0,.slice none 0 0] 141∧ae [b] w w'∧B≤w'.heap.size) parts _ ?_
  ⟨0,i3,[],.slice none 0 0,by omega,by omega,rfl,rfl,?_,rfl,nX.nil _ _,h6,iK,uN,fy,QT⟩ ?_
 ·exact⟨rfl,rfl,rfl,rfl,rfl,rfl,trivial⟩
 ·rw[cF,Nat.sub_zero,Kq];rfl
 rintro m σ w7 nj⟨k,j,l,sl,Fe,rfl,mh,rfl,nt,ID,bN,h7,j0,vU,lF,LC⟩;refine au ?_;by_cases aaI:k<parts
 ·refine ye ?_;refine au ?_;have bz:ae [] w7 w7.drew:=(ae.refl _ _).drew;refine bC (fun w'=>True∧ak w' b5 (xC (kk:Nat) (v:Nat) n sl) 141) [9] bE ?_;have rE:=bz.af j0 (by simp);have hS:True∧ak w7.drew b5 (xC (kk:Nat) (v:Nat) n sl) 141:=⟨trivial,rE⟩;have zI:parts-k=(parts-(k+1))+1:=by omega
  have xK:bq=aF (gM ts fin vs (f-1) j) fun q=>aF (kI one (parts-(k+1)) q.2) (fun(r,j)=>qU ts fin kk n v ((l++[q.1])++r) j):=by
   rw[nt,zI,kI,iQ];cases gM ts fin vs (f-1) j with
   |error e=>rfl
   | ok q=>
    obtain⟨t,j'⟩:=q;show aF (aF (kI (gM ts fin vs (f-1)) (parts-(k+1)) j') _) _=aF (kI (gM ts fin vs (f-1)) (parts-(k+1)) j') _;cases kI (gM ts fin vs (f-1)) (parts-(k+1)) j' with
    |error e=>rfl
    |ok q=>
     obtain⟨r',k'⟩:=q;show qU ts fin kk n v (l++t::r') k'=qU ts fin kk n v (l++[t]++r') k';rw[List.append_assoc];rfl
  refine dp 0 ?_;refine dp 1 ?_;refine dp 2 ?_;refine dp 3 ?_;refine uT 4 (((deep+1:Nat):Int)) rfl (by decide+kernel) rfl rfl rfl rfl rfl (by simp only[kK];omega) ?_;have h7d:=h7.aA bz;refine akJ 5 func254 rfl (by decide+kernel) rfl rfl (dF (fst:=[]) (cap:=[]) rfl rfl rfl rfl (by decide+kernel) (End.mono (ih (f-1) (by omega) (deep+1) j (by omega) h7d) ?_ ?_))
  rotate_left
  ·rintro v w5⟨e,hX,r⟩;exact⟨e,by rw[xK,hX];rfl,r⟩
  rintro r bM⟨⟨t,j'⟩,hX,⟨cs,F',rfl,iX,gU⟩,me,bV⟩;rw[hX]at xK;have gB:bq=aF (kI one (parts-(k+1)) j') (fun(r,j)=>qU ts fin kk n v ((l++[t])++r) j):=xK;have Hj:=bV.af rE (by simp;omega);have Ae:=bV.af (bz.af vU (by simp)) (by simp;omega);have yk:=(bN.keep bz (by simp)).keep bV (by simp;omega);have qT:=(lF.dt bz).tr bV;refine⟨fun _=>⟨trivial,Hj⟩,?_⟩;have my:=iX.one;obtain⟨c0,c1,c2,c3,rfl⟩:=jl iX.length;refine a8 6 rfl (eE _ _ rfl rfl (VW c0 c1 c2 c3) ?_);intro dB g11 aaJ u4 b8 ue;have Hk:=b8.af Hj (by simp);have QU:=b8.af Ae (by simp);have mg:=me.aA b8;have Bs:=yk.keep b8 (by simp);have BN:=qT.dt b8;refine⟨fun _=>⟨trivial,Hk⟩,?_⟩;obtain⟨xs,qP⟩:=Bs.own;have xd:B≤dB.heap.size:=by have:=bV.size;have:=b8.size;have:w7.drew.heap.size=w7.heap.size:=rfl;omega
  refine a8 7 rfl (ja B 141 4 48 xs [c0,c1,c2,c3] rfl rfl rfl (by decide+kernel) qP (ue.range (by rfl)) rfl my (by decide) (by simp only[maxLen];omega) (by omega) xd ?_);intro g12 py fj DV pA;have zO:ae [b] w fj:=by
   rcases pA with⟨h1,_,h2⟩|⟨_,h2,_⟩
   ·exact BN.aO h2 (by have:=(qP.lt g12 h1).1;omega)
   ·exact BN.dt h2
  have bS:∀c,c<B→sl.ownBlock≠some c:=fun c hc e=>by have:=(qP.lt c e).1;omega
  have Ci:=qL Hk (fun k hk e=>bS b5 vP (e▸hk)) pA;have QV:=qL QU (fun k hk e=>bS b4 tG (e▸hk)) pA;have sg:=mg.app qP (by omega) (by decide) pA;refine⟨fun _=>⟨trivial,Ci⟩,?_⟩;refine tk 8 ?_;refine a8 9 rfl (aH [.slice (some ⟨g12,0,none⟩) (l.length+1) py] rfl UZ Ci (by simp[xC]) (by simp;rfl) ?_);intro iW Ca bZ EA;have jx:b_ (xC (kk:Nat) (v:Nat) n sl) 3 [.slice (some ⟨g12,0,none⟩) (l.length+1) py]=xC (kk:Nat) (v:Nat) n (.slice (some ⟨g12,0,none⟩) (l.length+1) py):=rfl;rw[jx]at EA;refine⟨fun h=>absurd (by simp) h,?_⟩;refine bm ?_;have ar0:dB.heap.size≤fj.heap.size:=by
   rcases pA with⟨_,_,h2⟩|⟨_,h2,_⟩
   ·exact h2.size
   ·exact h2.size
  have LD:=bZ.af QV (by simp;omega);have yr:ae [b] w iW:=zO.aO bZ (by omega);have EB:B≤iW.heap.size:=by have:=bZ.size;omega
  have Sd:=sg.put Ci Ez bZ (by decide);refine nM ((k+1:Nat):Int) ?_;refine au ?_;have uU:nX fj B (.slice (some ⟨g12,0,none⟩) (l.length+1) py) (l++[t]):=by
   refine Bs.app (iX.keep b8 (fun c cG=>⟨(gU c cG).2,by simp⟩)) (fun c cG=>?_) (fun ys vt=>?_) pA
   ·have h3:=gU c cG;have bw:w7.drew.heap.size=w7.heap.size:=rfl;refine⟨by omega,by have:=b8.size;omega,fun e'=>?_⟩;have:=(bN.keep bz (by simp)).own;obtain⟨zs,hz⟩:=this;have:=(hz.lt c e').2;omega
   ·have:ys=xs:=vt.eq qP;subst this;exact DV
  have uV:=uU.keep bZ (by simp;omega);refine bj ?_ (nj _ _ _ ?_ ⟨k+1,j',l++[t],.slice (some ⟨g12,0,none⟩) (l.length+1) py,by omega,rfl,rfl,rfl,gB,by simp[ID],uV,Sd,EA,LD,yr,EB⟩)
  ·exact⟨rfl,rfl,rfl,rfl,rfl,rfl,trivial⟩
  ·omega
 ·refine aL ?_;refine au ?_;have xK:bq=aF (eu ts fin [41] j) fun i5=>.ok (.mk (kk:Nat) (v:Nat) n l,i5):=by
   rw[nt,show parts-k=0 by omega];show qU ts fin kk n v (l++[]) j=_;rw[List.append_nil];rfl
  refine dW func254 rfl rfl (dF (fst:=[]) (cap:=[]) rfl rfl rfl rfl (by decide+kernel) (End.mono (DK eU h7 [41] (by decide)) ?_ ?_))
  rotate_left
  ·rintro v w5⟨e,hX,r⟩;exact⟨e,by rw[xK,hX];rfl,r⟩
  rintro r w8⟨j',hX,h8,aS⟩;rw[hX]at xK;have mL:=aS.af j0 (by simp;omega);have lN:=aS.af vU (by simp;omega);refine au ?_;refine ai _ (bF (xC (kk:Nat) (v:Nat) n sl) rfl (mL.range (by rfl))) ?_;refine aj (aH (xC (kk:Nat) (v:Nat) n sl) rfl zu lN (by simp[xC]) (DU mh) ?_);intro w9 n_ bg rH;rw[bs (by rfl)]at rH;refine au ?_;have al8:w0.heap.size≤b4:=by have:=h.kp.size;omega
  have h9:=h8.put lN al8 bg (by decide);have gY:ae [b] w w9:=(lF.tr aS).aO bg (by omega);obtain⟨F,og,dd⟩:=((bN.keep aS (by simp;omega)).keep bg (by simp;omega)).exprs;exact df func254 (.inr (.inr (.inl ⟨_,_,_,rfl,rfl,cV hT rH rfl⟩))) ⟨(.mk (kk:Nat) (v:Nat) n l,j'),xK,⟨xC (kk:Nat) (v:Nat) n sl,F,rfl,dY.of og,fun c cG=>by have:=dd c cG;omega⟩,h9,gY⟩
end
section
variable{w0 w w':World}{lv vv:Value}{ts:List Tok}{fin b i:Nat}{vs:List aJ}
def SJ(w w':World)(r:Value)(t:ST):Prop:=∃(cs:List Value) (F:Nat→Prop),r=.agg cs.toArray∧iO F w' cs t∧∀c,F c→w.heap.size≤c∧c<w'.heap.size
def AU(w w':World)(r:Value)(l:List ST):Prop:=(∃a n c,r=.slice a n c∧n≤c)∧∃F:Nat→Prop,eM F w' r l∧∀c,F c→w.heap.size≤c∧c<w'.heap.size
theorem AU.keep{cg:World}{r:Value}{l:List ST}{fp:List Nat}(h:AU w w' r l)(hk:ae fp w' cg)(dP:∀c∈fp,c<w.heap.size):AU w cg r l:=by
 obtain⟨h1,F,h2,h3⟩:=h;exact⟨h1,F,h2.keep hk (fun c hc=>⟨(h3 c hc).2,fun hm=>by have:=dP c hm;have:=(h3 c hc).1;omega⟩),fun c hc=>⟨(h3 c hc).1,Nat.lt_of_lt_of_le (h3 c hc).2 hk.size⟩⟩
theorem AU.mono{cg:World}{r:Value}{l:List ST}(h:AU w w' r l)(hl:cg.heap.size≤w.heap.size):AU cg w' r l:=by
 obtain⟨h1,F,h2,h3⟩:=h;exact⟨h1,F,h2,fun c hc=>⟨Nat.le_trans hl (h3 c hc).1,(h3 c hc).2⟩⟩
theorem VX{deep g bx:Nat}{one:Nat→Except bp (ST×Nat)}{stop:Nat→Bool}(eU:Ct ts)(hg:pd prog g=true)(iQ:∀i r,one i=.ok r→i<r.2∧r.2≤ts.length) (aZ:∀(i:Nat) {w:World},Rd w0 lv ts fin b vv vs w i→r7 219 [.pointer (some ⟨b,0,none⟩),.int .i64 (deep:Nat)] w0 w (one i) fun q r w'=>SJ w w' r q.1∧Rd w0 lv ts fin b vv vs w' q.2∧ae [b] w w') (oX:∀(i:Nat) {w:World},Rd w0 lv ts fin b vv vs w i→ak w bx [.pointer (some ⟨b,0,none⟩)] 236→aC prog g [.pointer (some ⟨bx,0,none⟩)] w fun r w'=>r=.bool (stop i)∧w'=w) {i:Nat}{w:World}(h:Rd w0 lv ts fin b vv vs w i)(hx:ak w bx [.pointer (some ⟨b,0,none⟩)] 236):r7 194 [.pointer (some ⟨b,0,none⟩),.int .i64 (deep:Nat),.func (.func g) #[] #[.pointer (some ⟨bx,0,none⟩)]] w0 w (cQ stop one (ts.length+1-i) i) fun q r w'=>AU w w' r q.1∧Rd w0 lv ts fin b vv vs w' q.2∧ae [b] w w':=by
 have hlen:=eU.len;have o6:=h.lt;have MB:=hx.lt;have ar1:=h.le;refine mO 18 func194 ?_;refine au ?_;obtain⟨bq,fA⟩:∃bq,bq=cQ stop one (ts.length+1-i) i:=⟨_,rfl⟩;rw[←fA];obtain⟨B,hB⟩:∃B,B=w.heap.size:=⟨_,rfl⟩;have Ez:w0.heap.size≤B:=by have:=h.kp.size;omega
 have bS:bx≠b:=by
  obtain⟨a0,c0,gI,_⟩:=h.af;exact hx.ne gI (by decide)
 refine cP (fun m σ w'=>∃(j:Nat) (l:List ST) (sl:Value),m=ts.length+1-j∧σ=[(0,.pointer (some ⟨b,0,none⟩)),(1,.int .i64 (deep:Nat)),(2,.func (.func g) #[] #[.pointer (some ⟨bx,0,none⟩)]),(7,sl)]∧
  bq=aF (cQ stop one (ts.length+1-j) j) (fun(r,k)=>.ok (l++r,k))∧l.length≤j∧lG w' B sl l∧Rd w0 lv ts fin b vv vs w' j∧ak w' bx [.pointer (some ⟨b,0,none⟩)] 236∧ae [b] w w')
  _ _ ?_ ⟨i,[],.slice none 0 0,rfl,rfl,?_,Nat.zero_le _,lG.nil _ _,h,hx,ae.refl _ _⟩ ?_
 ·exact⟨rfl,rfl,rfl,rfl,trivial⟩
 ·rw[fA];cases cQ stop one (ts.length+1-i) i<;>rfl
 rintro m σ w2 ih⟨j,l,sl,rfl,rfl,bR,hlj,bN,h2,gi,an⟩;have jv:=h2.le;refine au ?_;refine aj (rK (fst:=[]) (cap:=[.pointer (some ⟨bx,0,none⟩)]) rfl rfl rfl rfl hg ((oX j h2 gi).mono ?_));rintro r w3⟨rfl,rfl⟩;have hu:cQ stop one (ts.length+1-j) j=if stop j then .ok ([],j)else aF (one j) fun(t,k)=>aF (cQ stop one (ts.length-j) k) fun(r,k)=>.ok (t::r,k):=by
  have e:ts.length+1-j=(ts.length-j)+1:=by omega
  rw[e];rfl
 obtain⟨q,hq⟩:∃q,q=stop j:=⟨_,rfl⟩;rw[←hq]at hu⊢;cases q with
 | true=>
  rw[if_pos rfl]at hu;refine au ?_;refine ay func194 rfl ⟨(l,j),?_,⟨?_,?_⟩,h2,an⟩
  ·rw[bR,hu];show Except.ok (l++[],j)=_;rw[List.append_nil]
  ·obtain⟨xs,ho⟩:=bN.own;obtain⟨a,cap,rfl⟩:=ho.form;exact⟨a,_,cap,rfl,OQ ho⟩
  ·obtain⟨F,h1,h3⟩:=bN.stmts;exact⟨F,h1,fun c hc=>by have:=h3 c hc;omega⟩
 | false=>
  rw[if_neg (by decide)]at hu;have cF:bq=aF (one j) fun q=>aF (cQ stop one (ts.length+1-q.2) q.2) (fun(r,k)=>.ok ((l++[q.1])++r,k)):=by
   rw[bR,hu];cases hc:one j with
   |error e=>rfl
   | ok q=>
    obtain⟨t,j'⟩:=q;have h1:=iQ _ _ hc
    dsimp only at h1
    show aF (aF (cQ stop one (ts.length-j) j') _) _=aF (cQ stop one (ts.length+1-j') j') _;rw[Dg iQ (ts.length-j) (ts.length+1-j') j' h1.2 (by omega) (by omega)];cases cQ stop one (ts.length+1-j') j' with
    |error e=>rfl
    |ok q=>
     obtain⟨r',k'⟩:=q;show Except.ok (l++t::r',k')=Except.ok (l++[t]++r',k');rw[List.append_assoc];rfl
  refine au ?_;refine dW func194 rfl rfl (dF (fst:=[]) (cap:=[]) rfl rfl rfl rfl (by decide+kernel) (End.mono (aZ j h2) ?_ ?_))
  rotate_left
  ·rintro v w5⟨e,hX,r⟩;exact⟨e,by rw[cF,hX];rfl,r⟩
  rintro r w5⟨⟨t,j'⟩,hX,⟨cs,F',rfl,iX,gU⟩,h5,aE⟩;have Mp:=iQ _ _ hX
  dsimp only at Mp iX
  rw[hX]at cF;have jw:bq=aF (cQ stop one (ts.length+1-j') j') (fun(r,k)=>.ok ((l++[t])++r,k)):=cF;have zM:=bN.keep aE (by simp;omega);have cK:=an.tr aE;have gw:=aE.af gi (by simp;exact bS);have my:=iX.one;obtain⟨c0,c1,c2,c3,c4,c5,c6,c7,c8,c9,xM,xN,rfl⟩:=Ph iX.length;refine aj (eE _ _ rfl rfl (Ny c0 c1 c2 c3 c4 c5 c6 c7 c8 c9 xM xN) ?_);intro w6 g6 yY iI aD dM;have h6:=h5.aA aD;have im:=aD.af gw (by simp);have BK:=zM.keep aD (by simp);have fy:=cK.dt aD;obtain⟨xs,mU⟩:=BK.own;have IJ:B≤w6.heap.size:=by have:=fy.size;omega
  refine aj (ja B 143 12 160 xs [c0,c1,c2,c3,c4,c5,c6,c7,c8,c9,xM,xN] rfl rfl rfl (by decide+kernel) mU (dM.range (by rfl)) rfl my (by decide) (by simp only[maxLen];omega) (by omega) IJ ?_);intro g7 B7 w7 GI u9;have lF:ae [b] w w7:=by
   rcases u9 with⟨h1,_,h2⟩|⟨_,h2,_⟩
   ·exact fy.aO h2 (by have:=(mU.lt g7 h1).1;omega)
   ·exact fy.dt h2
  have h7:=h6.app mU Ez (by decide) u9;have sd:=qL im (fun k hk e=>by have:=(mU.lt k hk).1;omega) u9;have rR:lG w7 B (.slice (some ⟨g7,0,none⟩) (l.length+1) B7) (l++[t]):=by
   refine BK.app (iX.keep aD (fun c cG=>⟨(gU c cG).2,by simp⟩)) (fun c cG=>?_) (fun ys vt=>?_) u9
   ·have h3:=gU c cG;have:=an.size;refine⟨by omega,by have:=aD.size;omega,fun e'=>?_⟩;obtain⟨zs,hz⟩:=bN.own;have:=(hz.lt c e').2;omega
   ·have:ys=xs:=vt.eq mU;subst this;exact GI
  refine au ?_;refine bj ?_ (ih _ _ _ ?_ ⟨j',l++[t],.slice (some ⟨g7,0,none⟩) (l.length+1) B7,rfl,rfl,jw,by simp;omega,rR,h7,sd,lF⟩)
  ·exact⟨rfl,rfl,rfl,rfl,trivial⟩
  ·omega
theorem adf(eU:Ct ts){bx:Nat}(h:Rd w0 lv ts fin b vv vs w i)(hx:ak w bx [.pointer (some ⟨b,0,none⟩)] 236):aC prog 271 [.pointer (some ⟨bx,0,none⟩)] w fun r w'=>r=.bool (eg ts i [41])∧w'=w:=by
 refine aG 4 func271 ?_;refine lB hx ?_;refine oC (UU eU h [41] (by decide)) ?_;rintro r w2⟨rfl,rfl⟩;refine au ?_;exact ay func271 rfl ⟨rfl,rfl⟩
theorem ag7{bx:Nat}(h:Rd w0 lv ts fin b vv vs w i)(hx:ak w bx [.pointer (some ⟨b,0,none⟩)] 236):aC prog 195 [.pointer (some ⟨bx,0,none⟩)] w fun r w'=>r=.bool (decide (ts.length≤i))∧w'=w:=by
 obtain⟨a,c,hb,_⟩:=h.af;have hle:=h.le;refine aG 8 func195 ?_;refine lB hx ?_;refine lB hb ?_;refine au ?_;by_cases he:ts.length≤i
 ·refine ye ?_;refine au ?_;exact ay func195 rfl ⟨by simp[he],rfl⟩
 ·refine aL ?_;refine au ?_;exact ay func195 rfl ⟨by simp[he],rfl⟩
theorem Xf{deep:Nat}{one:Nat→Except bp (ST×Nat)}(eU:Ct ts)(iQ:∀i r,one i=.ok r→i<r.2∧r.2≤ts.length) (aZ:∀(i:Nat) {w:World},Rd w0 lv ts fin b vv vs w i→r7 219 [.pointer (some ⟨b,0,none⟩),.int .i64 (deep:Nat)] w0 w (one i) fun q r w'=>SJ w w' r q.1∧Rd w0 lv ts fin b vv vs w' q.2∧ae [b] w w') (h:Rd w0 lv ts fin b vv vs w i):r7 255 [.pointer (some ⟨b,0,none⟩),.int .i64 (deep:Nat)] w0 w (jC ts fin one i) fun q r w'=>AU w w' r q.1∧Rd w0 lv ts fin b vv vs w' q.2∧ae [b] w w':=by
 have o6:=h.lt;refine mO 15 func255 ?_;refine au ?_;refine aj (bY [.pointer (some ⟨b,0,none⟩)] rfl ?_);intro w1 bx RU bt ah gl;have h1:=h.aA ah;refine lB gl ?_;obtain⟨bq,fA⟩:∃bq,bq=jC ts fin one i:=⟨_,rfl⟩;rw[←fA];unfold jC at fA;refine dW func255 rfl rfl (dF (fst:=[]) (cap:=[]) rfl rfl rfl rfl (by decide+kernel) (End.mono (DK eU h1 [40] (by decide)) ?_ ?_))
 rotate_left
 ·rintro v w5⟨e,hX,r⟩;exact⟨e,by rw[fA,hX];rfl,r⟩
 rintro r w2⟨j,hX,h2,an⟩;rw[hX]at fA;have bR:bq=aF (cQ (fun j=>eg ts j [41]) one (ts.length+1-j) j) fun(l,k)=>aF (eu ts fin [41] k) fun m=>.ok (l,m):=fA;have oB:=an.af gl (by simp;omega);refine lB oB ?_;refine au ?_;refine dW func255 rfl rfl (dF (fst:=[]) (cap:=[]) rfl rfl rfl rfl (by decide+kernel) (End.mono (VX (stop:=fun j=>eg ts j [41]) (g:=271) (bx:=bx) eU (by decide+kernel) iQ aZ (fun i w h hx=>adf eU h hx) h2 oB) ?_ ?_))
 rotate_left
 ·rintro v w5⟨e,hX,r⟩;exact⟨e,by rw[bR,hX];rfl,r⟩
 rintro r w3⟨⟨l,k⟩,hX,hL,h3,aw⟩;rw[hX]at bR;have cF:bq=aF (eu ts fin [41] k) fun m=>.ok (l,m):=bR;have fe:=aw.af oB (by simp;omega);refine lB fe ?_;refine dW func255 rfl rfl (dF (fst:=[]) (cap:=[]) rfl rfl rfl rfl (by decide+kernel) (End.mono (DK eU h3 [41] (by decide)) ?_ ?_))
 rotate_left
 ·rintro v w5⟨e,hX,r⟩;exact⟨e,by rw[cF,hX];rfl,r⟩
 rintro r w4⟨m,hX,h4,ax⟩;rw[hX]at cF;refine au ?_;have s1:=ah.size;have s2:=an.size;refine ay func255 rfl ⟨(l,m),cF,(hL.keep ax (by simp;omega)).mono (by omega),h4,(((ae.bG ah).tr an).tr aw).tr ax⟩
structure Sx(w0:World)(lv:Value)(ts:List Tok)(fin b:Nat)(vv:Value)(vs:List aJ)(w:World)(B b4 b5 kk v:Nat)(e g:ET)(lb lo:List ST)(ce cf:List Value)(bv ov:Value)(w':World)(i:Nat):Prop where
 rd:Rd w0 lv ts fin b vv vs w' i
 z:ak w' b5 (ep (kk:Nat) (v:Nat) ce cf bv ov) 143
 gd:Gd w' B e g lb lo ce cf bv ov
 fm:Fm ce cf bv ov
 y:ak w' b4 xO 143
 kp:ae [b] w w'
 sz:B≤w'.heap.size
structure La(w0 w:World)(b b4 b5 B:Nat):Prop where
 h1:b<w.heap.size
 h2:w.heap.size≤b4
 h3:b4<b5
 h4:b5<B
 h5:w0.heap.size≤w.heap.size
section
variable{B b4 b5 kk v v' j:Nat}{e g e' g':ET}{lb lo lb' lo':List ST}{ce cf MO MP:List Value}{bv ov jf MQ:Value}{cg:World}
theorem Sx.call(h:Sx w0 lv ts fin b vv vs w B b4 b5 kk v e g lb lo ce cf bv ov w' i)(la:La w0 w b b4 b5 B)(hr:Rd w0 lv ts fin b vv vs cg j)(hk:ae [b] w' cg):Sx w0 lv ts fin b vv vs w B b4 b5 kk v e g lb lo ce cf bv ov cg j:=by
 obtain⟨l1,l2,l3,l4,l5⟩:=la;exact⟨hr,hk.af h.z (by simp;omega),h.gd.keep hk (by simp;omega),h.fm,hk.af h.y (by simp;omega),h.kp.tr hk,Nat.le_trans h.sz hk.size⟩
theorem Sx.store(h:Sx w0 lv ts fin b vv vs w B b4 b5 kk v e g lb lo ce cf bv ov w' i)(la:La w0 w b b4 b5 B)(hk:ae [b5] w' cg)(hz:ak cg b5 (ep (kk:Nat) (v':Nat) MO MP jf MQ) 143)(hg:Gd w' B e' g' lb' lo' MO MP jf MQ)(hf:Fm MO MP jf MQ):Sx w0 lv ts fin b vv vs w B b4 b5 kk v' e' g' lb' lo' MO MP jf MQ cg i:=by
 obtain⟨l1,l2,l3,l4,l5⟩:=la;exact⟨h.rd.put h.z (by omega) hk (by decide),hz,hg.keep hk (by simp;omega),hf,hk.af h.y (by simp;omega),h.kp.aO hk (by omega),Nat.le_trans h.sz hk.size⟩
end
theorem SI.cells{r:Value}{t:ET}(h:SI w w' r t):∃cs:List Value,r=.agg cs.toArray∧cs.length=4∧(∀u∈cs,u.oneCell'=true)∧∃F:Nat→Prop,dY F w' cs t∧∀c,F c→w.heap.size≤c∧c<w'.heap.size:=by
 obtain⟨cs,F,h1,h2,h3⟩:=h;exact⟨cs,h1,h2.length,h2.one,F,h2,h3⟩
theorem aiZ(eU:Ct ts)(zi:Lw w0)(du:vs.length≤100000):∀(f deep i:Nat) {w:World},deep+f=13→Rd w0 lv ts fin b vv vs w i→r7 219 [.pointer (some ⟨b,0,none⟩),.int .i64 (deep:Nat)] w0 w (ie ts fin vs f i) fun q r w'=>SJ w w' r q.1∧Rd w0 lv ts fin b vv vs w' q.2∧ae [b] w w':=by
 intro f;induction f using Nat.strongRecOn with
 |_ f ih=>
 intro deep i w ff h;have o6:=h.lt;refine mO 55 func219 ?_;refine au ?_;refine aj (bO _ rfl J9 ?_);intro w1 b4 Ey bt ah gl;have h1:=h.aA ah;refine au ?_;obtain⟨ex,hex⟩:∃ex,ex=gM ts fin vs (f-1):=⟨_,rfl⟩;obtain⟨one,iQ⟩:∃one,one=ie ts fin vs (f-1):=⟨_,rfl⟩;rw[Xg ts fin vs ff i,←iQ,←hex];obtain⟨bq,fA⟩:∃bq,bq=aF (aF (if 12<deep then .error (dG ts fin 4 i)else .ok i) (lR ts fin ub 7)) (fun(k,i1)=>vV ts fin vs ex one k i1):=⟨_,rfl⟩;rw[←fA];refine dW func219 rfl rfl (dF (fst:=[]) (cap:=[]) rfl rfl rfl rfl (by decide+kernel) (End.mono (VU eU zi h1 aky deep) ?_ ?_))
 rotate_left
 ·rintro v w2⟨e,hX,r⟩;exact⟨e,by rw[fA,hX];rfl,r⟩
 rintro r w2⟨⟨kk,i1⟩,cm,rfl,h2,an⟩;rw[cm]at fA;have g_:bq=vV ts fin vs ex one kk i1:=fA;have hd:¬12<deep:=by
  intro hd;rw[if_pos hd]at cm;cases cm
 have oB:=an.af gl (by simp;omega);have br:ae [b] w w2:=(ae.bG ah).tr an;have Ik:w1.heap.size≤w2.heap.size:=an.size;refine ai _ (bL _ rfl rfl (Xh (kk:Nat)) w2) ?_;refine aj (bO _ rfl J9 ?_);intro w3 b5 Ad cw aw fe;refine aj (aH (ep (kk:Nat) 0 zx zx (.slice none 0 0) (.slice none 0 0)) rfl J_ fe (by rw[pZ Fm.zero];simp[xO,pZ Fm.zero]) (Dm Fm.zero) ?_);intro w4 cz ax hU;rw[bs (by rfl)]at hU;have eA:ae [] w2 w4:=aw.aO ax (by omega);have dJ:ae [b] w w4:=br.dt eA;obtain⟨B,hB⟩:∃B,B=w4.heap.size:=⟨_,rfl⟩;have la:La w0 w b b4 b5 B:=⟨o6,by omega,by omega,by have:=hU.lt;omega,h.kp.size⟩;have s4:Sx w0 lv ts fin b vv vs w B b4 b5 kk 0 fK fK [] [] zx zx (.slice none 0 0) (.slice none 0 0) w4 i1:=
  ⟨h2.aA eA,hU,Gd.zero,Fm.zero,eA.af oB (by simp),dJ,by omega⟩
 refine lB s4.z ?_;refine oC (Gf ((kk:Nat):Int) w4) ?_;rintro r w4'⟨rfl,rfl⟩;unfold B4;refine aP ?_;refine bT ?_;refine fx (fun σ' w'=>∃v i2:Nat,bq=st2 ts fin ex one kk v i2∧Sx w0 lv ts fin b vv vs w B b4 b5 kk v fK fK [] [] zx zx (.slice none 0 0) (.slice none 0 0) w' i2∧Sub [(0,.pointer (some ⟨b,0,none⟩)),(1,.int .i64 (deep:Nat)),(4,.pointer (some ⟨b4,0,none⟩)),(5,.pointer (some ⟨b5,0,none⟩)),(6,.bool (dw (kk:Nat))),(7,.bool (cY (kk:Nat))),(9,.bool (mn (kk:Nat))),(10,.bool (lz (kk:Nat)))] σ') ?_ ?_
 rotate_left
 ·intro dy;refine bT ?_;refine cH ?_;obtain⟨q,hq⟩:∃q,q=iA ((kk:Nat):Int):=⟨_,rfl⟩;rw[←hq];unfold vV at g_;rw[←hq]at g_;cases q with
  | true=>
   have bR:bq=aF (kq ts fin vs i1) fun(v,i2)=>st2 ts fin ex one kk v i2:=g_;refine aP ?_;refine cH ?_;refine aP ?_;refine dW func219 rfl rfl (dF (fst:=[]) (cap:=[]) rfl rfl rfl rfl (by decide+kernel) (End.mono (M7 s4.rd du) ?_ ?_))
   rotate_left
   ·rintro x w6⟨e0,hX,r⟩;exact⟨e0,by rw[bR,hX];rfl,r⟩
   rintro r w5⟨⟨v,j⟩,hX,rfl,h5,aE⟩;rw[hX]at bR;have s5:=s4.call la h5 aE;refine aP ?_;refine aj (aH [.int .i64 ((v:Nat):Int)] rfl oH s5.z (by rw[pZ Fm.zero];simp) (by simp;rfl) ?_);intro w6 iI aD iK;rw[aaK]at iK;refine aP ?_;exact dy _ _ ⟨v,j,bR,s5.store la aD iK s5.gd s5.fm,rfl,rfl,rfl,rfl,rfl,rfl,rfl,rfl,trivial⟩
  |false=>
   refine aP ?_;exact dy _ _ ⟨0,i1,g_,s4,rfl,rfl,rfl,rfl,rfl,rfl,rfl,rfl,trivial⟩
 rintro σ' w5⟨v,i,ec,s5,bH⟩;refine bj bH ?_;clear bH;refine bT ?_;refine fx (fun σ' w'=>∃(v:Nat) (e:ET) (ce:List Value) (k:Nat),bq=vW ts fin ex one kk v e k∧Sx w0 lv ts fin b vv vs w B b4 b5 kk v e fK [] [] ce zx (.slice none 0 0) (.slice none 0 0) w' k∧Sub [(0,.pointer (some ⟨b,0,none⟩)),(1,.int .i64 (deep:Nat)),(4,.pointer (some ⟨b4,0,none⟩)),(5,.pointer (some ⟨b5,0,none⟩)),(7,.bool (cY (kk:Nat))),(9,.bool (mn (kk:Nat))),(10,.bool (lz (kk:Nat)))] σ') ?_ ?_
 rotate_left
 ·intro dy;refine bT ?_;refine cH ?_;obtain⟨q,hq⟩:∃q,q=dw ((kk:Nat):Int):=⟨_,rfl⟩;rw[←hq];unfold st2 at ec;rw[←hq]at ec;cases q with
  | true=>
   have bR:bq=aF (ex i) fun(t,k)=>vW ts fin ex one kk v t k:=ec;refine aP ?_;refine cH ?_;refine aP ?_;refine nM ((deep+1:Nat):Int) ?_;refine dW func219 rfl rfl (dF (fst:=[]) (cap:=[]) rfl rfl rfl rfl (by decide+kernel) (End.mono (Xd eU zi du (f-1) (deep+1) i (by omega) s5.rd) ?_ ?_))
   rotate_left
   ·rintro x w6⟨e0,hX,r⟩;rw[←hex]at hX;exact⟨e0,by rw[bR,hX];rfl,r⟩
   rintro r w6⟨⟨t,j⟩,hX,hE,h6,aD⟩;rw[←hex]at hX;rw[hX]at bR;obtain⟨cs,rfl,kR,my,F',iX,gU⟩:=hE.cells;have s6:=s5.call la h6 aD;refine aP ?_;refine aj (aH cs rfl (by rw[kR];exact zu) s6.z (by rw[pZ s6.fm,kR];decide) my ?_);intro w7 jr aN j0;have vi:=j0;rw[show b_ _ _ cs=_ from aaL (op:=((kk:Nat):Int)) (v:=((v:Nat):Int)) s6.fm kR]at vi;refine aP ?_;refine dy _ _ ⟨v,t,cs,j,bR,s6.store la aN vi ?_ ⟨kR,s6.fm.lf,my,s6.fm.of,s6.fm.bv,s6.fm.ov⟩,rfl,rfl,rfl,rfl,rfl,rfl,rfl,trivial⟩;obtain⟨F,hF,h1,h2,h3,h4⟩:=s6.gd;refine⟨fun c=>F c∨F' c,?_,iX.mono fun c h=>.inr h,h2.mono fun c h=>.inl h,h3.mono fun c h=>.inl h,h4.mono fun c h=>.inl h⟩;rintro c (h|h)
   ·exact hF c h
   ·have:=gU c h;have:=s5.sz;exact⟨by omega,(gU c h).2⟩
  |false=>
   refine aP ?_;exact dy _ _ ⟨v,fK,zx,i,ec,s5,rfl,rfl,rfl,rfl,rfl,rfl,rfl,trivial⟩
 rintro σ' w5⟨v,e,ce,i,ec,s5,bH⟩;refine bj bH ?_;clear bH;refine bT ?_;refine fx (fun σ' w'=>∃(v:Nat) (e g:ET) (ce cf:List Value) (k:Nat),bq=vX ts fin one kk v e g k∧Sx w0 lv ts fin b vv vs w B b4 b5 kk v e g [] [] ce cf (.slice none 0 0) (.slice none 0 0) w' k∧Sub [(0,.pointer (some ⟨b,0,none⟩)),(1,.int .i64 (deep:Nat)),(4,.pointer (some ⟨b4,0,none⟩)),(5,.pointer (some ⟨b5,0,none⟩)),(9,.bool (mn (kk:Nat))),(10,.bool (lz (kk:Nat)))] σ') ?_ ?_
 rotate_left
 ·intro dy;refine bT ?_;refine cH ?_;obtain⟨q,hq⟩:∃q,q=cY ((kk:Nat):Int):=⟨_,rfl⟩;rw[←hq];unfold vW at ec;rw[←hq]at ec;cases q with
  | true=>
   have bR:bq=aF (ex i) fun(t,k)=>vX ts fin one kk v e t k:=ec;refine aP ?_;refine cH ?_;refine aP ?_;refine nM ((deep+1:Nat):Int) ?_;refine dW func219 rfl rfl (dF (fst:=[]) (cap:=[]) rfl rfl rfl rfl (by decide+kernel) (End.mono (Xd eU zi du (f-1) (deep+1) i (by omega) s5.rd) ?_ ?_))
   rotate_left
   ·rintro x w6⟨e0,hX,r⟩;rw[←hex]at hX;exact⟨e0,by rw[bR,hX];rfl,r⟩
   rintro r w6⟨⟨t,j⟩,hX,hE,h6,aD⟩;rw[←hex]at hX;rw[hX]at bR;obtain⟨cs,rfl,kR,my,F',iX,gU⟩:=hE.cells;have s6:=s5.call la h6 aD;refine aP ?_;refine aj (aH cs rfl (by rw[kR];exact zu) s6.z (by rw[pZ s6.fm,kR];decide) my ?_);intro w7 jr aN j0;have vi:=j0;rw[show b_ _ _ cs=_ from aaM (op:=((kk:Nat):Int)) (v:=((v:Nat):Int)) s6.fm kR]at vi;refine aP ?_;refine dy _ _ ⟨v,e,t,ce,cs,j,bR,s6.store la aN vi ?_ ⟨s6.fm.le,kR,s6.fm.oe,my,s6.fm.bv,s6.fm.ov⟩,rfl,rfl,rfl,rfl,rfl,rfl,trivial⟩;obtain⟨F,hF,h1,h2,h3,h4⟩:=s6.gd;refine⟨fun c=>F c∨F' c,?_,h1.mono fun c h=>.inl h,iX.mono fun c h=>.inr h,h3.mono fun c h=>.inl h,h4.mono fun c h=>.inl h⟩;rintro c (h|h)
   ·exact hF c h
   ·have:=gU c h;have:=s5.sz;exact⟨by omega,(gU c h).2⟩
  |false=>
   refine aP ?_;exact dy _ _ ⟨v,e,fK,ce,zx,i,ec,s5,rfl,rfl,rfl,rfl,rfl,rfl,trivial⟩
 rintro σ' w5⟨v,e,g,ce,cf,i,ec,s5,bH⟩;refine bj bH ?_;clear bH;refine bT ?_;refine fx (fun σ' w'=>∃(v:Nat) (e g:ET) (lb:List ST) (ce cf:List Value) (bv:Value) (k:Nat),bq=vY ts fin one kk v e g lb k∧Sx w0 lv ts fin b vv vs w B b4 b5 kk v e g lb [] ce cf bv (.slice none 0 0) w' k∧Sub [(0,.pointer (some ⟨b,0,none⟩)),(1,.int .i64 (deep:Nat)),(4,.pointer (some ⟨b4,0,none⟩)),(5,.pointer (some ⟨b5,0,none⟩)),(10,.bool (lz (kk:Nat)))] σ') ?_ ?_
 rotate_left
 ·intro dy;refine bT ?_;refine cH ?_;obtain⟨q,hq⟩:∃q,q=mn ((kk:Nat):Int):=⟨_,rfl⟩;rw[←hq];unfold vX at ec;rw[←hq]at ec;cases q with
  | true=>
   have bR:bq=aF (jC ts fin one i) fun(t,k)=>vY ts fin one kk v e g t k:=ec;refine aP ?_;refine cH ?_;refine aP ?_;refine nM ((deep+1:Nat):Int) ?_;refine dW func219 rfl rfl (dF (fst:=[]) (cap:=[]) rfl rfl rfl rfl (by decide+kernel) (End.mono (Xf (one:=ie ts fin vs (f-1)) (deep:=deep+1) eU (qI vs (f-1)) (fun i w h=>ih (f-1) (by omega) (deep+1) i (by omega) h) s5.rd) ?_ ?_))
   rotate_left
   ·rintro x w6⟨e0,hX,r⟩;rw[←iQ]at hX;exact⟨e0,by rw[bR,hX];rfl,r⟩
   rintro r w6⟨⟨t,j⟩,hX,hL,h6,aD⟩;rw[←iQ]at hX;rw[hX]at bR;obtain⟨⟨a,n,c,rfl,_⟩,F',iX,gU⟩:=hL;have s6:=s5.call la h6 aD;refine aP ?_;refine aj (aH [.slice a n c] rfl JS s6.z (by rw[pZ s6.fm];simp) (by simp;rfl) ?_);intro w7 jr aN j0;have vi:=j0;rw[show b_ _ _ [.slice a n c]=_ from aaN (op:=((kk:Nat):Int)) (v:=((v:Nat):Int)) s6.fm (.slice a n c)]at vi;refine aP ?_;refine dy _ _ ⟨v,e,g,t,ce,cf,.slice a n c,j,bR,s6.store la aN vi ?_ ⟨s6.fm.le,s6.fm.lf,s6.fm.oe,s6.fm.of,rfl,s6.fm.ov⟩,rfl,rfl,rfl,rfl,rfl,trivial⟩;obtain⟨F,hF,h1,h2,h3,h4⟩:=s6.gd;refine⟨fun c=>F c∨F' c,?_,h1.mono fun c h=>.inl h,h2.mono fun c h=>.inl h,iX.mono fun c h=>.inr h,h4.mono fun c h=>.inl h⟩;rintro c (h|h)
   ·exact hF c h
   ·have:=gU c h;have:=s5.sz;exact⟨by omega,(gU c h).2⟩
  |false=>
   refine aP ?_;exact dy _ _ ⟨v,e,g,[],ce,cf,(.slice none 0 0),i,ec,s5,rfl,rfl,rfl,rfl,rfl,trivial⟩
 rintro σ' w5⟨v,e,g,lb,ce,cf,bv,i,ec,s5,bH⟩;refine bj bH ?_;clear bH;refine bT ?_;refine fx (fun σ' w'=>∃(v:Nat) (e g:ET) (lb lo:List ST) (ce cf:List Value) (bv ov:Value) (k:Nat),bq=C4 ts fin kk v e g lb lo k∧Sx w0 lv ts fin b vv vs w B b4 b5 kk v e g lb lo ce cf bv ov w' k∧Sub [(0,.pointer (some ⟨b,0,none⟩)),(1,.int .i64 (deep:Nat)),(4,.pointer (some ⟨b4,0,none⟩)),(5,.pointer (some ⟨b5,0,none⟩))] σ') ?_ ?_
 rotate_left
 ·intro dy;refine bT ?_;refine cH ?_;obtain⟨q,hq⟩:∃q,q=lz ((kk:Nat):Int):=⟨_,rfl⟩;rw[←hq];unfold vY at ec;rw[←hq]at ec;cases q with
  | true=>
   have bR:bq=aF (jC ts fin one i) fun(t,k)=>C4 ts fin kk v e g lb t k:=ec;refine aP ?_;refine cH ?_;refine aP ?_;refine nM ((deep+1:Nat):Int) ?_;refine dW func219 rfl rfl (dF (fst:=[]) (cap:=[]) rfl rfl rfl rfl (by decide+kernel) (End.mono (Xf (one:=ie ts fin vs (f-1)) (deep:=deep+1) eU (qI vs (f-1)) (fun i w h=>ih (f-1) (by omega) (deep+1) i (by omega) h) s5.rd) ?_ ?_))
   rotate_left
   ·rintro x w6⟨e0,hX,r⟩;rw[←iQ]at hX;exact⟨e0,by rw[bR,hX];rfl,r⟩
   rintro r w6⟨⟨t,j⟩,hX,hL,h6,aD⟩;rw[←iQ]at hX;rw[hX]at bR;obtain⟨⟨a,n,c,rfl,_⟩,F',iX,gU⟩:=hL;have s6:=s5.call la h6 aD;refine aP ?_;refine aj (aH [.slice a n c] rfl JS s6.z (by rw[pZ s6.fm];simp) (by simp;rfl) ?_);intro w7 jr aN j0;have vi:=j0;rw[show b_ _ _ [.slice a n c]=_ from aaO (op:=((kk:Nat):Int)) (v:=((v:Nat):Int)) s6.fm (.slice a n c)]at vi;refine aP ?_;refine dy _ _ ⟨v,e,g,lb,t,ce,cf,bv,.slice a n c,j,bR,s6.store la aN vi ?_ ⟨s6.fm.le,s6.fm.lf,s6.fm.oe,s6.fm.of,s6.fm.bv,rfl⟩,rfl,rfl,rfl,rfl,trivial⟩;obtain⟨F,hF,h1,h2,h3,h4⟩:=s6.gd;refine⟨fun c=>F c∨F' c,?_,h1.mono fun c h=>.inl h,h2.mono fun c h=>.inl h,h3.mono fun c h=>.inl h,iX.mono fun c h=>.inr h⟩;rintro c (h|h)
   ·exact hF c h
   ·have:=gU c h;have:=s5.sz;exact⟨by omega,(gU c h).2⟩
  |false=>
   refine aP ?_;exact dy _ _ ⟨v,e,g,lb,[],ce,cf,bv,(.slice none 0 0),i,ec,s5,rfl,rfl,rfl,rfl,trivial⟩
 rintro σ' w5⟨v,e,g,lb,lo,ce,cf,bv,ov,i,ec,s5,bH⟩;refine bj bH ?_;unfold C4 at ec;refine au ?_;refine dW func219 rfl rfl (dF (fst:=[]) (cap:=[]) rfl rfl rfl rfl (by decide+kernel) (End.mono (DK eU s5.rd [41] (by decide)) ?_ ?_))
 rotate_left
 ·rintro x w6⟨e0,hX,r⟩;exact⟨e0,by rw[ec,hX];rfl,r⟩
 rintro r w6⟨j,hX,h6,aD⟩;rw[hX]at ec;have s6:=s5.call la h6 aD;have Hl:(ep ((kk:Nat):Int) ((v:Nat):Int) ce cf bv ov).length=12:=pZ s6.fm;refine au ?_;refine ai _ (h_ (ep (kk:Nat) (v:Nat) ce cf bv ov) E.hT rfl rfl (by rw[Hl];rfl) (s6.z.range (by simp))) ?_;refine aj (aH (ep (kk:Nat) (v:Nat) ce cf bv ov) rfl (by rw[Hl];exact J_) s6.y (by rw[Hl];simp[xO,pZ Fm.zero]) (Dm s6.fm) ?_);intro w7 jr aN vU;rw[bs (by rw[Hl];simp[xO,pZ Fm.zero])]at vU;refine au ?_;obtain⟨l1,l2,l3,l4,l5⟩:=la;obtain⟨F,hF,h1,h2,h3,h4⟩:=s6.gd.keep aN (by simp;omega);refine df func219 (.inr (.inr (.inl ⟨_,_,_,rfl,rfl,cV E.hT vU (by rw[Hl];rfl)⟩))) ⟨(.mk (kk:Nat) (v:Nat) e g lb lo,j),ec,⟨ep (kk:Nat) (v:Nat) ce cf bv ov,F,rfl,iO.of h1 h2 h3 h4,fun c hc=>?_⟩,s6.rd.put s6.y (by omega) aN (by decide),s6.kp.aO aN (by omega)⟩;have:=hF c hc;have:=dJ.size;omega
end
section
variable{w0 w w':World}{lv vv:Value}{ts:List Tok}{fin b i:Nat}{vs:List aJ}
theorem Xi{s:List UInt8}(h:eg ts i s=true):eu ts fin s i=.ok (i+1):=by
 unfold eu;rw[if_pos h]
theorem akz(eU:Ct ts)(du:vs.length≤100000)(h:Rd w0 lv ts fin b vv vs w i)(qo:eg ts i mZ=true):r7 193 [.pointer (some ⟨b,0,none⟩)] w0 w (jc ts fin i) fun q _ w'=>(∃xo,Rd w0 lv ts fin b xo (vs++[q.1]) w' q.2)∧∃fp:List Nat,(∀k∈fp,k=b∨vv.ownBlock=some k)∧ae fp w w':=by
 have o6:=h.lt;refine mO 35 func193 ?_;refine au ?_;obtain⟨bq,fA⟩:∃bq,bq=jc ts fin i:=⟨_,rfl⟩;rw[←fA];have g_:bq=aF (jM ts fin (fun t=>rU t.text) (i+1)) fun q=>aF (jM ts fin (fun t=>t.num) q.2) fun p=>.ok ((str q.1.text,iD p.1.val),p.2):=by
  rw[fA];unfold jc;rw[VP];cases jM ts fin (fun t=>rU t.text) (i+1)with
  |error e=>rfl
  |ok q=>
   show aF (fT ts fin q.2) _=aF (jM ts fin (fun t=>t.num) q.2) _;rw[Xc];cases jM ts fin (fun t=>t.num) q.2<;>rfl
 refine dW func193 rfl rfl (dF (fst:=[]) (cap:=[]) rfl rfl rfl rfl (by decide+kernel) (End.mono (DK eU h mZ (by decide)) ?_ ?_))
 rotate_left
 ·rintro x w1⟨e,hX,r⟩;rw[Xi qo]at hX;cases hX
 rintro r w1⟨j,hX,h1,ah⟩;rw[Xi qo]at hX;injection hX with hX;subst hX;refine au ?_;refine dW func193 rfl rfl (dF (fst:=[]) (cap:=[]) rfl rfl rfl rfl (by decide+kernel) (End.mono (TI h1) ?_ ?_))
 rotate_left
 ·rintro x w1⟨e,hX,r⟩;exact⟨e,by rw[g_,hX];rfl,r⟩
 rintro r w2⟨⟨t,j⟩,hX,rfl,h2,an⟩;rw[hX]at g_;have bR:bq=aF (jM ts fin (fun t=>t.num) j) fun p=>.ok ((str t.text,iD p.1.val),p.2):=g_;refine aj (bO _ rfl wx ?_);intro w3 b2 Ch cw aw fe;refine aj (aH (dr t) rfl qK fe (by simp[dn,dr]) (mN _ _ _ _) ?_);intro w4 cz ax hU;rw[bs (by rfl)]at hU;have eA:ae [] w2 w4:=aw.aO ax (by omega);have h4:=h2.aA eA;have dJ:ae [b] w w4:=(ah.tr an).dt eA;have EC:w.heap.size≤b2:=by have:=ah.size;have:=an.size;omega
 refine au ?_;refine dW func193 rfl rfl (dF (fst:=[]) (cap:=[]) rfl rfl rfl rfl (by decide+kernel) (End.mono (Ud h4) ?_ ?_))
 rotate_left
 ·rintro x w1⟨e,hX,r⟩;exact⟨e,by rw[bR,hX];rfl,r⟩
 rintro r w5⟨⟨u,k⟩,hX,rfl,h5,aE⟩;rw[hX]at bR;have cF:bq=.ok ((str t.text,iD u.val),k):=bR;have iz:=aE.af hU (by simp;omega);refine aj (bO _ rfl wx ?_);intro w6 b3 Hi iI aD im;refine aj (aH (dr u) rfl qK im (by simp[dn,dr]) (mN _ _ _ _) ?_);intro w7 jr aN sd;rw[bs (by rfl)]at sd;have ud:ae [] w5 w7:=aD.aO aN (by omega);have j0:=ud.af iz (by simp);refine lB j0 ?_;refine ai _ (bL _ rfl rfl (Xj (str t.text)) w7) ?_;refine aj (bO _ rfl YY ?_);intro w8 b4 Ey jP aS lN;refine aj (aH (dR (str t.text,0)) rfl YZ lN (by simp[dR]) (by simp[dR];constructor<;>rfl) ?_);intro w9 n_ bg rH;rw[bs (by rfl)]at rH;have oT:ae [] w7 w9:=aS.aO bg (by omega);have uO:=oT.af sd (by simp);have Cd:ae [] w5 w9:=ud.tr oT;have s5:=aE.size;have s04:=dJ.size;have s57:=ud.size;refine aP ?_;refine bT ?_;refine fx (fun σ' w'=>ak w' b4 (dR (str t.text,iD u.val)) 137∧ae [] w5 w'∧Sub [(0,.pointer (some ⟨b,0,none⟩)),(4,.pointer (some ⟨b4,0,none⟩))] σ') ?_ ?_
 rotate_left
 ·intro dy;refine bT ?_;refine cH ?_;refine aP ?_;refine lB uO ?_;by_cases ru:1≤u.val
  ·refine ye ?_;refine aP ?_;refine lB uO ?_;by_cases EZ:u.val≤48
   ·refine ye ?_;refine aP ?_;refine cH ?_;refine aP ?_;refine lB uO ?_;refine aP ?_;refine aj (aH [.int .i64 u.val] rfl oH rH (by simp[dR]) (by simp;rfl) ?_);intro bM zY bV Ae;refine aP ?_;refine dy _ _ ⟨?_,Cd.aO bV (by omega),rfl,rfl,trivial⟩;have e:iD u.val=u.val:=by
     unfold iD;rw[if_pos ⟨ru,EZ⟩]
    rw[e];exact Ae
   ·refine aL ?_;refine aP ?_;refine dy _ _ ⟨?_,Cd,rfl,rfl,trivial⟩;have e:iD u.val=0:=by
     unfold iD;rw[if_neg (by omega)]
    rw[e];exact rH
  ·refine aL ?_;refine aP ?_;refine dy _ _ ⟨?_,Cd,rfl,rfl,trivial⟩;have e:iD u.val=0:=by
    unfold iD;rw[if_neg (by omega)]
   rw[e];exact rH
 rintro σ' bM⟨Ae,bV,bH⟩;refine bj bH ?_;have me:=h5.aA bV;obtain⟨y,hy⟩:∃y,y=(str t.text,iD u.val):=⟨_,rfl⟩;rw[←hy]at Ae cF;obtain⟨a,c,ld,hc,ha⟩:=me.af;obtain⟨av,cv,kx⟩:=me.var.form;have bz:ae [] bM bM.drew:=(ae.refl _ _).drew;refine bC (fun w'=>ak w' b4 (dR y) 137∧ak w' b (rF (.slice a (ts.length-k) c) fin vv) 238) [10] bE ?_;have hS:ak bM.drew b4 (dR y) 137∧ak bM.drew b (rF (.slice a (ts.length-k) c) fin vv) 238:=⟨bz.af Ae (by simp),bz.af ld (by simp)⟩;refine dp 0 ?_;refine dp 1 ?_;refine dp 2 ?_;refine dp 3 ?_;refine dp 4 ?_;refine aI 5 _ rfl (fun w9 aq=>bF (dR y) rfl (aq.1.range (by rfl))) hS ?_;refine a8 6 rfl (eE _ _ rfl rfl (Ym (.string y.1) (.int .i64 y.2)) ?_);intro dB g11 aaJ u4 b8 ue;have Zp:ae [] bM dB:=bz.tr b8;have LF:ak dB b4 (dR y) 137∧ak dB b (rF (.slice a (ts.length-k) c) fin vv) 238:=⟨b8.af hS.1 (by simp),b8.af hS.2 (by simp)⟩;refine⟨fun _=>LF,?_⟩;have mg:=me.aA Zp;have sw0:=mg.kp.size;refine a8 7 rfl (ja w0.heap.size 137 2 24 (vs.flatMap dR) (dR y) rfl rfl rfl (by decide+kernel) mg.var (ue.range (by rfl)) rfl (by intro x hx;simp only[dR,List.mem_cons,List.not_mem_nil,or_false]at hx;rcases hx with rfl|rfl<;>rfl) (by decide) (by simp only[maxLen];omega) (by omega) (by omega) ?_);intro g12 py fj DV pA;have hvw:∀q,vv.ownBlock=some q→q<w.heap.size:=fun q hq=>(h.var.lt q hq).2;have aoh:∀q,vv.ownBlock=some q→b4≠q:=fun q hq=>by have:=hvw q hq;omega
 have uA:∀q,vv.ownBlock=some q→b≠q:=fun q hq=>fQ mg.var LF.2 (by decide) q hq;have LG:ak fj b4 (dR y) 137∧ak fj b (rF (.slice a (ts.length-k) c) fin vv) 238:=⟨qL LF.1 aoh pA,qL LF.2 uA pA⟩;have di:∃fp:List Nat,(∀q∈fp,vv.ownBlock=some q)∧ae fp dB fj:=by
  rcases pA with⟨h1,_,h2⟩|⟨_,h2,_⟩
  ·exact⟨[g12],by simp[h1],h2⟩
  ·exact⟨[],by simp,h2⟩
 obtain⟨fp,dP,di⟩:=di;refine⟨fun _=>LG,?_⟩;refine tk 8 ?_;refine tk 9 ?_;refine a8 10 rfl (aH [.slice (some ⟨g12,0,none⟩) (vs.length+1) py] rfl OS LG.2 (by simp[rF]) (by simp;rfl) ?_);intro iW Ca bZ tg;have jx:b_ (rF (.slice a (ts.length-k) c) fin vv) 2 [.slice (some ⟨g12,0,none⟩) (vs.length+1) py]=rF (.slice a (ts.length-k) c) fin (.slice (some ⟨g12,0,none⟩) (vs.length+1) py):=rfl;rw[jx]at tg;refine⟨fun h=>absurd (by simp) h,?_⟩;refine bm ?_;refine bK func193 rfl ⟨(y,k),cF,⟨.slice (some ⟨g12,0,none⟩) (vs.length+1) py,?_⟩,b::fp,?_,?_⟩
 ·have qj:=h.new;refine⟨mg.le,?_,qj,?_,?_,⟨a,c,tg,hc,ha⟩⟩
  ·refine(mg.kp.trans di (fun q hq=>.inr ?_)).aO bZ qj;exact(mg.var.lt q (dP q hq)).1
  ·obtain⟨Bt,ho⟩:=mg.tok;refine⟨Bt,?_⟩;have Ej:Own fj Bt 231 4 lv ts.length (ts.flatMap dr):=by
    refine ho.keep di (fun q hq hm=>?_);have IK:=dP q hm;rcases mg.var.2 with⟨hv,_⟩|⟨g',c',LB,hv,_,vR,_⟩
    ·rw[hv]at IK;simp[Value.ownBlock]at IK
    ·rw[hv]at IK;simp[Value.ownBlock]at IK;subst IK;exact fQ ho vR (by decide) _ hq rfl
   exact Ej.keep bZ (fun q hq=>by simp;exact fun e=>fQ Ej LG.2 (by decide) q hq e.symm)
  ·have e1:(vs++[y]).length=vs.length+1:=by simp
   have e2:(vs++[y]).flatMap dR=vs.flatMap dR++dR y:=by simp
   rw[e1,e2];exact DV.keep bZ (fun q hq=>by simp;exact fun e=>fQ DV LG.2 (by decide) q hq e.symm)
 ·intro q hq;rcases List.mem_cons.1 hq with rfl|hq
  ·exact .inl rfl
  ·exact .inr (dP q hq)
 ·have bX:ae (b::fp) w bM:=((dJ.tr aE).dt bV).mono (fun q hq=>.inl (by simp at hq;simp[hq]));exact((bX.dt Zp).trans di (fun q hq=>.inl (List.mem_cons_of_mem _ hq))).trans bZ (fun q hq=>.inl (by simp at hq;simp[hq]))
end
theorem ai0(a a':Option Addr)(n c n' c':Nat):prog.built 75 [(0,.slice a n c),(1,.slice a' n' c')]=some [Value.slice a n c,.slice a' n' c'].toArray:=by kernel_rfl
def Fp(w0 w':World)(r:Value)(vs:List aJ)(body:List ST):Prop:=QR r∧∃F:Nat→Prop,iN F w' r vs body∧∀c,F c→w0.heap.size≤c∧c<w'.heap.size
theorem Fp.keep{w0 w w':World}{r:Value}{vs:List aJ}{body:List ST}{fp:List Nat}(h:Fp w0 w r vs body)(hk:ae fp w w')(dP:∀c∈fp,c<w0.heap.size):Fp w0 w' r vs body:=by
 obtain⟨h1,F,h2,h3⟩:=h;exact⟨h1,F,h2.keep hk (fun c hc=>⟨(h3 c hc).2,fun hm=>by have:=dP c hm;have:=(h3 c hc).1;omega⟩),fun c hc=>⟨(h3 c hc).1,Nat.lt_of_lt_of_le (h3 c hc).2 hk.size⟩⟩
section
variable{w0 w w':World}{lv vv:Value}{ts:List Tok}{fin b i:Nat}{vs:List aJ}
theorem akA:∀(i:Nat) (r:aJ×Nat),jc ts fin i=.ok r→i<r.2∧r.2≤ts.length:=fun _ _ h=>uR h
theorem aen(eU:Ct ts)(zi:Lw w0)(h:Rd w0 lv ts fin b (.slice none 0 0) [] w 0):r7 165 [.pointer (some ⟨b,0,none⟩)] w0 w (pt ts fin) fun q r w'=>Fp w0 w' r q.1 q.2∧ae [] w0 w':=by
 have hlen:=eU.len;have o6:=h.lt;refine mO 17 func165 ?_;refine au ?_;refine aj (bY [.pointer (some ⟨b,0,none⟩)] rfl ?_);intro w1 bx RU bt ah cJ;refine aj (bO _ rfl sH ?_);intro w2 b2 Ch cE an oB;have br:=ah.tr an;have h2:=h.aA br;have gi:=an.af cJ (by simp);obtain⟨bq,fA⟩:∃bq,bq=pt ts fin:=⟨_,rfl⟩;rw[←fA];have gV:bq=aF (cQ (fun j=>!eg ts j mZ) (jc ts fin) (ts.length+1-0) 0) fun(r,k)=>aF (rS ts fin ([]++r) k) fun(b,_)=>.ok ([]++r,b):=by
  rw[fA];rfl
 have ar2:w0.heap.size≤w.heap.size:=h.kp.size;refine au ?_;refine cP (fun m σ w'=>∃(j:Nat) (vs:List aJ) (vv:Value),m=ts.length+1-j∧σ=[(1,.pointer (some ⟨bx,0,none⟩)),(2,.pointer (some ⟨b2,0,none⟩))]∧
  bq=aF (cQ (fun j=>!eg ts j mZ) (jc ts fin) (ts.length+1-j) j) (fun(r,k)=>aF (rS ts fin (vs++r) k) fun(b,_)=>.ok (vs++r,b))∧vs.length≤j∧Rd w0 lv ts fin b vv vs w' j∧
  ak w' bx [.pointer (some ⟨b,0,none⟩)] 236∧ak w' b2 pz 75) _ _ ?_ ⟨0,[],.slice none 0 0,rfl,rfl,gV,Nat.le_refl _,h2,gi,oB⟩ ?_
 ·exact⟨rfl,rfl,trivial⟩
 rintro m σ w3 ih⟨j,vs,vv,rfl,rfl,cF,hvj,h3,fX,fe⟩;have jv:=h3.le;refine lB fX ?_;refine oC (UU eU h3 mZ (by decide)) ?_;rintro r w4⟨rfl,rfl⟩;have hu:cQ (fun j=>!eg ts j mZ) (jc ts fin) (ts.length+1-j) j=if(!eg ts j mZ)=true then .ok ([],j)else aF (jc ts fin j) fun(t,k)=>aF (cQ (fun j=>!eg ts j mZ) (jc ts fin) (ts.length-j) k) fun(r,k)=>.ok (t::r,k):=by
  have e:ts.length+1-j=(ts.length-j)+1:=by omega
  rw[e];rfl
 obtain⟨q,hq⟩:∃q,q=eg ts j mZ:=⟨_,rfl⟩;rw[←hq]at hu⊢;cases q with
 | true=>
  rw[if_neg (by decide)]at hu;have jw:bq=aF (jc ts fin j) fun q=>aF (cQ (fun j=>!eg ts j mZ) (jc ts fin) (ts.length+1-q.2) q.2) (fun(r,k)=>aF (rS ts fin ((vs++[q.1])++r) k) fun(b,_)=>.ok ((vs++[q.1])++r,b)):=by
   rw[cF,hu];cases hc:jc ts fin j with
   |error e=>rfl
   | ok q=>
    obtain⟨t,j'⟩:=q;have h1:=uR hc
    dsimp only at h1
    show aF (aF (cQ _ (jc ts fin) (ts.length-j) j') _) _=aF (cQ _ (jc ts fin) (ts.length+1-j') j') _;rw[Dg akA (ts.length-j) (ts.length+1-j') j' h1.2 (by omega) (by omega)];cases cQ (fun j=>!eg ts j mZ) (jc ts fin) (ts.length+1-j') j' with
    |error e=>rfl
    |ok q=>
     obtain⟨r',k'⟩:=q;show aF (rS ts fin (vs++t::r') k') _=aF (rS ts fin (vs++[t]++r') k') _;rw[show vs++t::r'=vs++[t]++r' by simp]
  refine lB fX ?_;refine dW func165 rfl rfl (dF (fst:=[]) (cap:=[]) rfl rfl rfl rfl (by decide+kernel) (End.mono (akz eU (by omega) h3 hq.symm) ?_ ?_))
  rotate_left
  ·rintro x w5⟨e,hX,r⟩;exact⟨e,by rw[jw,hX];rfl,r⟩
  rintro r w5⟨⟨y,j'⟩,hX,⟨xo,h5⟩,fp,dP,aE⟩;have az:=uR hX
  dsimp only at az
  rw[hX]at jw;obtain⟨a0,c0,gI,_⟩:=h3.af;have gw:=aE.af fX (fun hm=>(dP bx hm).elim (fun e=>fX.ne gI (by decide) e) fun e=>fQ h3.var fX (by decide) bx e rfl);have iz:=aE.af fe (fun hm=>(dP b2 hm).elim (fun e=>fe.ne gI (by decide) e) fun e=>fQ h3.var fe (by decide) b2 e rfl);refine au ?_;refine bj ?_ (ih _ _ _ ?_ ⟨j',vs++[y],xo,rfl,rfl,jw,by simp;omega,h5,gw,iz⟩)
  ·exact⟨rfl,rfl,trivial⟩
  ·omega
 | false=>
  rw[if_pos (by decide)]at hu;have jw:bq=aF (rS ts fin vs j) fun(b,_)=>.ok (vs,b):=by
   rw[cF,hu];show aF (rS ts fin (vs++[]) j) _=_;rw[List.append_nil]
  unfold rS at jw;refine lB fX ?_;refine au ?_;refine dW func165 rfl rfl (dF (fst:=[]) (cap:=[]) rfl rfl rfl rfl (by decide+kernel) (End.mono (VX (deep:=0) (stop:=fun j=>decide (ts.length≤j)) (one:=ie ts fin vs 13) (g:=195) (bx:=bx) eU (by decide+kernel) (qI vs 13) (fun i w h=>aiZ eU zi (by omega) 13 0 i rfl h) (fun i w h hx=>ag7 h hx) h3 fX) ?_ ?_))
  rotate_left
  ·rintro x w5⟨e,hX,r⟩;exact⟨e,by rw[jw,hX];rfl,r⟩
  rintro r w5⟨⟨body,j'⟩,hX,⟨⟨a,n,c,rfl,uu⟩,F,og,dd⟩,h5,aE⟩;rw[hX]at jw;have E_:bq=.ok (vs,body):=jw;obtain⟨a0,c0,gI,_⟩:=h3.af;have gw:=aE.af fX (by simp;exact fun e=>fX.ne gI (by decide) e);have iz:=aE.af fe (by simp;exact fun e=>fe.ne gI (by decide) e);obtain⟨a5,c5,cr,_⟩:=h5.af;obtain⟨av,cv,rfl⟩:=h5.var.form;refine lB gw ?_;refine lB cr ?_;refine au ?_;refine ai _ (bL _ rfl rfl (ai0 av a vs.length cv n c) w5) ?_;refine aj (aH [.slice av vs.length cv,.slice a n c] rfl nI iz (by simp[pz]) (oJ _ _ _ _ _ _) ?_);intro w6 iI aD iK;rw[bs (by rfl)]at iK;refine au ?_;have EC:w0.heap.size≤b2:=by have:=ah.size;omega
  have h6:=h5.put iz EC aD (by decide);have s3:b2<w4.heap.size:=fe.lt;have vE:eM F w6 (.slice a n c) body:=og.keep aD (fun k hk=>⟨(dd k hk).2,by simp;have:=(dd k hk).1;omega⟩);have hv6:=Xk h6.var;refine df func165 (.inr (.inr (.inl ⟨_,_,_,rfl,rfl,cV hT iK rfl⟩))) ⟨(vs,body),E_,⟨⟨_,a,n,c,rfl,uu⟩,fun k=>(Value.slice av vs.length cv).ownBlock=some k∨F k,⟨_,_,rfl,hv6.mono fun k hk=>.inl hk,vE.mono fun k hk=>.inr hk⟩,?_⟩,h6.kp⟩;rintro k (hk|hk)
  ·exact h6.var.lt k hk
  ·have:=dd k hk;have:=h3.kp.size;have:=aD.size;omega
end
theorem alg{w:World}{b5:Nat}(hb:ak w b5 [.int .i64 0,.int .i64 0] 34)(e:bp):CallsD prog 164 [Value.pointer (some ⟨b5,0,none⟩)].toArray (.panicking (Cq (Fl e))) w fun en u' w'=>en=.returned (.tuple #[])∧u'=.panicking [{v:=Fl e,recovered:=true}]∧ak w' b5 [.int .i64 e.1,.int .i64 e.2] 34∧ae [b5] w w':=by
 refine Jq 8 func164 rfl rfl (by simp) ?_;refine JX ?_;refine TU (Fl e) rfl rfl rfl (fun a ha=>rfl) ?_;refine au ?_;refine ai _ (FD _ _ (by decide+kernel) rfl rfl w) ?_;refine au ?_;refine ai _ (UL (by decide+kernel) rfl rfl w) ?_;refine ai _ (Tt 0 [.int .i64 e.1,.int .i64 e.2] [.int .i64 e.1,.int .i64 e.2] rfl rfl (m:=2) (by decide+kernel) rfl w) ?_;refine aj (aH [.int .i64 e.1,.int .i64 e.2] rfl gm hb (by simp) (gp _ _) ?_);intro w1 bt ah aM;rw[bs (by rfl)]at aM;refine au ?_;exact JW func164 rfl (.inr (.inl ⟨rfl,rfl⟩)) ⟨rfl,rfl,aM,ah⟩
theorem ai1(w:World)(b5:Nat):CallsD prog 164 [Value.pointer (some ⟨b5,0,none⟩)].toArray .returning w fun en u' w'=>en=.returned (.tuple #[])∧u'=.returning∧w'=w:=by
 refine Jq 8 func164 rfl rfl (by simp) ?_;refine JX ?_;refine Ve rfl rfl rfl (fun a ha=>rfl) ?_;refine au ?_;refine ai _ (FG (by decide+kernel) rfl rfl w) ?_;refine au ?_;exact JW func164 rfl (.inr (.inl ⟨rfl,rfl⟩)) ⟨rfl,rfl,rfl⟩
def nx{α:Type}(x:Except bp α):Prop:=∀e,x=.error e→e.1≠0
section
variable{ts:List Tok}{fin:Nat}
theorem lT{α:Type}(a:α):nx (.ok a:Except bp α):=fun _ h=>by cases h
theorem kj{α β:Type}{x:Except bp α}{f:α→Except bp β}(h1:nx x)(h2:∀a,x=.ok a→nx (f a)):nx (aF x f):=by
 cases x with
 |error e=>
  intro e' he;injection he with he;subst he;exact h1 _ rfl
 |ok a=>exact h2 a rfl
theorem xY{α:Type}{code:Int}{i:Nat}(h:code≠0):nx (.error (dG ts fin code i):Except bp α):=by
 intro e he;injection he with he;subst he;unfold dG;split
 ·exact h
 ·show(if code=5 then 6 else code)≠0;split<;>omega
theorem F8(s:List UInt8)(i:Nat):nx (eu ts fin s i):=by
 unfold eu;split
 ·exact lT _
 ·exact xY (by decide)
theorem Yj(i:Nat):nx (fT ts fin i):=by
 unfold fT;split
 ·split
  ·exact lT _
  ·exact xY (by decide)
 ·exact xY (by decide)
theorem W6(i:Nat):nx (gu ts fin i):=by
 unfold gu;split
 ·split
  ·exact lT _
  ·exact xY (by decide)
 ·exact xY (by decide)
theorem Yl(vs:List aJ)(i:Nat):nx (kq ts fin vs i):=by
 unfold kq;refine kj (W6 _) fun p _=>?_;obtain⟨s,j⟩:=p
 dsimp only
 split
 ·exact lT _
 ·exact xY (by decide)
theorem VN(of:Nat→List UInt8)(most i:Nat):nx (lR ts fin of most i):=by
 unfold lR;refine kj (F8 _ _) fun p _=>?_;split
 ·exact lT _
 ·exact xY (by decide)
theorem W7{α:Type}{one:Nat→Except bp (α×Nat)}(h1:∀i,nx (one i)):∀m i,nx (kI one m i)
 |0,_=>lT _
 |m+1,i=>kj (h1 i) fun p _=>kj (W7 h1 m p.2) fun _ _=>lT _
theorem JA{α:Type}{st:Nat→Bool}{one:Nat→Except bp (α×Nat)}(h1:∀i,nx (one i))(h2:∀i r,one i=.ok r→i<r.2∧r.2≤ts.length):∀m i,i≤ts.length→ts.length<m+i→nx (cQ st one m i)
 |0,i,h,h'=>by omega
 | m+1,i,h,h'=>by
  unfold cQ;split
  ·exact lT _
  ·refine kj (h1 i) fun p hp=>kj (JA h1 h2 m p.2 ?_ ?_) fun _ _=>lT _
   ·exact(h2 i p hp).2
   ·have:=(h2 i p hp).1;omega
theorem Ow(vs:List aJ):∀f i,nx (gM ts fin vs f i)
 |0,i=>xY (by decide)
 | f+1,i=>by
  unfold gM;refine kj (VN _ _ _) fun p _=>kj ?_ fun p2 _=>kj ?_ fun p3 _=>kj (W7 (Ow vs f) _ _) fun p4 _=>kj (F8 _ _) fun _ _=>lT _
  ·split
   ·exact Yj _
   ·exact lT _
  ·split
   ·exact Yl _ _
   ·exact lT _
theorem W8{one:Nat→Except bp (ST×Nat)}(h1:∀i,nx (one i))(h2:∀i r,one i=.ok r→i<r.2∧r.2≤ts.length)(i:Nat):nx (jC ts fin one i):=by
 unfold jC;refine kj (F8 _ _) fun j hj=>kj (JA h1 h2 _ _ ?_ ?_) fun p _=>kj (F8 _ _) fun _ _=>lT _
 ·have:=sD hj;omega
 ·have:=sD hj;omega
theorem Ox(vs:List aJ):∀f i,nx (ie ts fin vs f i)
 |0,i=>xY (by decide)
 | f+1,i=>by
  unfold ie;refine kj (VN _ _ _) fun p _=>kj ?_ fun p2 _=>kj ?_ fun p3 _=>kj ?_ fun p4 _=>kj ?_ fun p5 _=>kj ?_ fun p6 _=>kj (F8 _ _) fun _ _=>lT _
  ·split
   ·exact Yl _ _
   ·exact lT _
  ·split
   ·exact Ow _ _ _
   ·exact lT _
  ·split
   ·exact Ow _ _ _
   ·exact lT _
  ·split
   ·exact W8 (Ox vs f) (qI vs f) _
   ·exact lT _
  ·split
   ·exact W8 (Ox vs f) (qI vs f) _
   ·exact lT _
theorem akw(i:Nat):nx (jc ts fin i):=by
 unfold jc;exact kj (W6 _) fun p _=>kj (Yj _) fun _ _=>lT _
theorem afn:nx (Bv ts fin):=by
 unfold Bv pt;refine kj (kj (JA akw (fun i r hr=>uR hr) _ _ (Nat.zero_le _) (by omega)) fun p hp=>kj (JA (Ox p.1 13) (qI p.1 13) _ _ ?_ ?_) fun _ _=>lT _) fun p _=>?_
 ·exact(A_ (fun i r hr=>uR hr) _ _ _ (Nat.zero_le _) hp).2.1
 ·have:=(A_ (fun i r hr=>uR hr) _ _ _ (Nat.zero_le _) hp).2.1;omega
 ·obtain⟨vs,b⟩:=p
  dsimp only
  split
  ·rename_i h
   intro e he;injection he with he;subst he;exact h
  ·exact lT _
end
theorem aem{l:List UInt8}{e:bp}(h:j1 l=.error e):e.1≠0:=by
 unfold j1 at h;split at h
 ·rename_i h1
  injection h with h;subst h;exact h1
 ·exact afn e h
theorem ai2(a:Option Addr)(n c:Nat)(fin:Int):prog.built 238 [(0,.slice a n c),(1,.int .i64 fin)]=some [Value.slice a n c,.int .i64 fin,.slice none 0 0].toArray:=by kernel_rfl
theorem ai3{w:World}{B:Nat}{lv:Value}{ts:List Tok}(fin:Nat)(eU:Ct ts)(hw:Lw w)(hl:Own w B 231 4 lv ts.length (ts.flatMap dr)):aC prog 129 [lv,.int .i64 (fin:Nat)] w fun r w'=>(∃x,r=.tuple #[x,.agg #[.int .i64 (yo (pt ts fin)).1,.int .i64 (yo (pt ts fin)).2]]∧Fp w w' x (zP (pt ts fin)).1 (zP (pt ts fin)).2)∧ae [] w w':=by
 obtain⟨al,cl,rfl⟩:=hl.form;refine aG 15 func129 ?_;refine au ?_;refine aj (bO _ rfl sH ?_);intro w1 b4 Ey bt ah l8;refine aj (bO _ rfl o9 ?_);intro w2 b5 Ad cE an mF;have gT:=an.af l8 (by simp);have br:=ah.tr an;refine au ?_;refine Wb (d:=⟨.fn (.func 164) #[.pointer (some ⟨b5,0,none⟩)],#[]⟩) rfl rfl (fun a ha=>?_) ?_
 ·have:=ha.has 7 _ rfl;simp[execOp,resolve,Act.eval,this,Deferred.ofValue]
 refine au ?_;refine ai _ (bL _ rfl rfl (ai2 al ts.length cl (fin:Nat)) w2) ?_;refine aj (bY (rF (.slice al ts.length cl) fin (.slice none 0 0)) rfl ?_);intro w3 b gI cw aw fe;refine au ?_;have yV:=hl.keep (br.tr aw) (by simp);have h3:Rd w2 (.slice al ts.length cl) ts fin b (.slice none 0 0) [] w3 0:=by
  refine⟨Nat.zero_le _,aw,by omega,⟨B,yV⟩,Own.nil _ _ _ _,⟨al,cl,by rw[Nat.sub_zero];exact fe,by rw[Nat.sub_zero];exact OQ hl,fun h0=>?_⟩⟩;rcases hl.2 with⟨_,h2⟩|⟨g,cap,cur,h1,_⟩
  ·omega
  ·injection h1 with h1 _ h2;subst h1 h2;exact⟨g,_,rfl,rfl⟩
 refine OY func129 rfl rfl rfl (dF (fst:=[]) (cap:=[]) rfl rfl rfl rfl (by decide+kernel) (End.mono (aen eU (hw.keep br) h3) ?_ ?_))
 ·rintro r w4⟨⟨vs,body⟩,hX,hP,ax⟩;obtain⟨⟨vv,a,n,c,rfl,uu⟩,_⟩:=hP.1,hP;obtain⟨F,⟨xo,jf,he,hv,_⟩,_⟩:=hP.2;have kx:vv=xo:=by
   injection he with he;have:=congrArg Array.toList he;simp at this;exact this.1
  subst kx;obtain⟨av,cv,rfl⟩:=hv.form;have oh:=ax.af gT (by simp);have nq:=ax.af mF (by simp);refine ai _ (bL _ rfl rfl I4 w4) ?_;refine aj (aH [.slice av vs.length cv,.slice a n c] rfl nI oh (by simp[pz]) (oJ _ _ _ _ _ _) ?_);intro w5 iV aE lp;rw[bs (by rfl)]at lp;have lr:=aE.af nq (by simp;omega);refine aj (aH [.int .i64 0,.int .i64 0] rfl gm lr (by simp) (gp _ _) ?_);intro w6 iI aD sr;rw[bs (by rfl)]at sr;have pP:=aD.af lp (by simp;omega);refine au ?_;refine Xz func129 rfl (fun ac ha=>⟨fun h=>(by cases h),.func 164,_,164,[Value.pointer (some ⟨b5,0,none⟩)].toArray,rfl,rfl,?_⟩);refine CallsD.GH (ai1 w6 b5) ?_;rintro e u' w7⟨rfl,rfl,rfl⟩;refine⟨.tuple #[.agg #[.slice av vs.length cv,.slice a n c],.agg #[.int .i64 0,.int .i64 0]],?_,.inl ⟨_,rfl,⟨.agg #[.slice av vs.length cv,.slice a n c],?_,?_⟩,?_⟩⟩
  ·have i4:=ha.has 4 _ rfl;have i5:=ha.has 5 _ rfl;have l4:=cV (t:=75) hT pP rfl;have l5:=cV (t:=34) hT sr rfl;show(results Tryz.f129 ac.tmps).run _ _=_;simp only[results,show Tryz.f129.results=#[.cell 4 75,.cell 5 34] from rfl];simp[i4,i5,asAddr,l4,l5]
  ·rw[hX];rfl
  ·rw[hX];have My:Fp w2 w7 (.agg #[.slice av vs.length cv,.slice a n c]) vs body:=(hP.keep aE (by simp;omega)).keep aD (by simp;omega);obtain⟨h1,F,h2,h3⟩:=My;exact⟨h1,F,h2,fun c hc=>by have:=h3 c hc;have:=br.size;omega⟩
  ·exact((br.tr ax).aO aE (by omega)).aO aD (by omega)
 ·rintro v w4⟨e,hX,rfl,ax⟩;intro ac ha;have oh:=ax.af gT (by simp);have nq:=ax.af mF (by simp);refine⟨fun h=>(by cases h),.func 164,_,164,[Value.pointer (some ⟨b5,0,none⟩)].toArray,rfl,rfl,?_⟩;refine CallsD.GH (alg nq e) ?_;rintro en u' w5⟨rfl,rfl,lr,aE⟩;have lp:=aE.af oh (by simp;omega);refine⟨.tuple #[.agg pz.toArray,.agg #[.int .i64 e.1,.int .i64 e.2]],?_,.inl ⟨_,rfl,⟨.agg pz.toArray,?_,?_⟩,?_⟩⟩
  ·have i4:=ha.has 4 _ rfl;have i5:=ha.has 5 _ rfl;have l4:=cV (t:=75) hT lp rfl;have l5:=cV (t:=34) hT lr rfl;show(results Tryz.f129 ac.tmps).run _ _=_;simp only[results,show Tryz.f129.results=#[.cell 4 75,.cell 5 34] from rfl];simp[i4,i5,asAddr,l4,l5]
  ·rw[hX];rfl
  ·rw[hX];exact⟨Bh,fun _=>False,Ba,fun c hc=>hc.elim⟩
  ·exact(br.tr ax).aO aE (by omega)
theorem akB{l:List UInt8}(h:(kg l).1=0):Ct (lS l)∧l.length≤6000∧(lS l).length≤6000:=by
 obtain⟨h1,h2,h3,_⟩:=VY h;refine⟨⟨by omega,?_⟩,h1,by omega⟩;rcases Ue l h1 with⟨e,h4,_⟩|⟨ts,h4,_,h5⟩
 ·rw[h4]at h;cases h
 ·rw[h5];exact(F0 _ _ _ _ h4).1
theorem afs{ts:List Tok}{fin:Nat}{vs:List aJ}{body:List ST}(h:pt ts fin=.ok (vs,body)):cu body≤3*ts.length:=by
 unfold pt at h;obtain⟨⟨E4,i⟩,ha,h⟩:=cM h;obtain⟨⟨b',j⟩,hb,h⟩:=cM h;injection h with h;injection h with h1 h2;subst h1 h2;have hi:=(A_ (fun i r hr=>uR hr) _ _ _ (Nat.zero_le _) ha).2.1;have hj:=(A_ (fun i r hr=>qI E4 13 i r hr) _ _ _ hi hb).2.1;have hs:=Nj (Jj E4 13) _ _ _ hb
 dsimp only at hi hj hs
 omega
theorem ago(l:List UInt8)(hl:l.length≤100000){w:World}(hw:Lw w):aC prog 96 [.string (str l)] w fun r w'=>aaB w w' r (j1 l)∧ae [] w w':=by
 refine aG 39 func96 ?_;refine au ?_;refine aj (bO _ rfl sH ?_);intro w1 b2 Ch bt ah l8;refine aj (bO _ rfl o9 ?_);intro w2 b3 Hi cE an mF;have gT:=an.af l8 (by simp);have br:=ah.tr an;refine oC (ai4 l (by omega) (hw.keep br)) ?_;rintro r w3⟨lv,rfl,yn,aw⟩;have bn:=br.tr aw;obtain⟨al,cl,rfl⟩:=yn.form;obtain⟨⟨fa,fb⟩,HX⟩:∃f,f=kg l:=⟨_,rfl⟩;rw[←HX];refine au ?_;refine aj (bO _ rfl o9 ?_);intro w4 b5 Ad cz ax Aw;refine au ?_;refine aj (aH [.int .i64 fa,.int .i64 fb] rfl gm Aw (by simp) (gp _ _) ?_);intro w5 iV aE yQ;rw[bs (by rfl)]at yQ;have kN:ae [] w3 w5:=ax.aO aE (by omega);have yw:=aw.tr kN;have lp:=yw.af gT (by simp);have lr:=yw.af mF (by simp);have cK:=bn.tr kN;have B3:b2≠b5:=by have:=aw.size;omega
 have LH:b3≠b5:=by have:=aw.size;omega
 have aoi:w.heap.size≤b5:=by have:=bn.size;omega
 refine lB yQ ?_;by_cases hz:fa=0
 ·have h0:(kg l).1=0:=by rw[←HX];exact hz
  obtain⟨eU,RO,ox⟩:=akB h0;have qh:=yn.keep kN (by simp);have qz:j1 l=aF (pt (lS l) l.length) fun(vs,b)=>if dq vs b≠0 then .error (dq vs b,-1)else .ok (vs,b):=by
   unfold j1;rw[if_neg (by rw[h0];decide)];rfl
  refine aL ?_;refine au ?_;refine ai _ (p_ l (by decide+kernel) rfl rfl w5) ?_;refine oC (ai3 l.length eU (hw.keep cK) qh) ?_;rintro r w6⟨⟨x,rfl,hP⟩,aD⟩;obtain⟨X,hX⟩:∃X,X=pt (lS l) l.length:=⟨_,rfl⟩;rw[←hX]at hP qz⊢;obtain⟨⟨ga,gb⟩,pM⟩:∃f,f=yo X:=⟨_,rfl⟩;rw[←pM];obtain⟨⟨vv,a,n,c,rfl,uu⟩,_⟩:=hP.1,hP;obtain⟨F,hPV,mH⟩:=hP.2;have aoj:=hPV;obtain⟨xo,jf,he,hv,_⟩:=aoj;have kx:vv=xo:=by
   injection he with he;have:=congrArg Array.toList he;simp at this;exact this.1
  subst kx;obtain⟨av,cv,rfl⟩:=hv.form;have pP:=aD.af lp (by simp);have sr:=aD.af lr (by simp);have yY:=aD.af yQ (by simp);have fy:=cK.tr aD;refine au ?_;refine aj (bO _ rfl sH ?_);intro w7 b6 aaP jr aN RP;refine aj (aH [.slice av (zP X).1.length cv,.slice a n c] rfl nI RP (by simp[pz]) (oJ _ _ _ _ _ _) ?_);intro w8 jP aS Ma;rw[bs (by rfl)]at Ma;have eP:ae [] w6 w8:=aN.aO aS (by omega);have EU:=eP.af yY (by simp);have arn:=yY.lt;refine aj (aH [.int .i64 ga,.int .i64 gb] rfl gm EU (by simp) (gp _ _) ?_);intro w9 n_ bg SK;rw[bs (by rfl)]at SK;have H2:=bg.af Ma (by simp;omega);have Fq:=bg.af (eP.af pP (by simp)) (by simp;exact B3);have AB:=bg.af (eP.af sr (by simp)) (by simp;exact LH);have gY:ae [] w w9:=(fy.tr eP).aO bg aoi;have s56:=aD.size;have s25:=yw.size;have s02:=br.size;have aZ:oN F w6 []:=fun c hc=>⟨(mH c hc).2,by simp⟩;have aok:oN F w8 [b5]:=fun c hc=>⟨Nat.lt_of_lt_of_le (mH c hc).2 eP.size,by simp;have:=(mH c hc).1;have:=yQ.lt;omega⟩;have zc:iN F w9 (.agg #[.slice av (zP X).1.length cv,.slice a n c]) (zP X).1 (zP X).2:=(hPV.keep eP aZ).keep bg aok;have QW:In F w9:=fun c hc=>by have:=(mH c hc).2;have:=eP.size;have:=bg.size;omega
  refine lB SK ?_;cases SL:X with
  | error e=>
   rw[SL]at qz pM zc;have mi:e=(ga,gb):=pM.symm;have bS:ga≠0:=by
    have pO:j1 l=.error e:=qz;have:=aem pO;rw[mi]at this;exact this
   refine ye ?_;refine au ?_;have bz:ae [] w9 w9.drew:=(ae.refl _ _).drew;refine bC (fun w'=>True∧ak w' b5 [.int .i64 ga,.int .i64 gb] 34) [] bE ?_;have hS:True∧ak w9.drew b5 [.int .i64 ga,.int .i64 gb] 34:=⟨trivial,bz.af SK (by simp)⟩;refine bD 0 _ rfl (fun w=>bL _ rfl rfl DC w) ?_;refine aI 1 _ rfl (fun w9 aq=>bF [.int .i64 ga,.int .i64 gb] rfl (aq.2.range (by rfl))) hS ?_;refine a8 2 rfl (aH pz rfl nI (bz.af Fq (by simp)) (by simp[pz]) (oJ _ _ _ _ _ _) ?_);intro bM zY bV qZ;rw[bs (by rfl)]at qZ;refine⟨fun _=>⟨trivial,bV.af hS.2 (by simp;exact B3.symm)⟩,?_⟩;have Ab:=bV.af (bz.af AB (by simp)) (by simp;omega);refine a8 3 rfl (aH [.int .i64 ga,.int .i64 gb] rfl gm Ab (by simp) (gp _ _) ?_);intro dB u4 b8 rX;rw[bs (by rfl)]at rX;have qs:=b8.af qZ (by simp;omega);refine⟨fun _=>⟨trivial,(b8.af (bV.af hS.2 (by simp;exact B3.symm)) (by simp;exact LH.symm))⟩,?_⟩;refine bm ?_;refine zy func96 rfl rfl rfl (cV hT qs rfl) (cV hT rX rfl) ⟨⟨.agg pz.toArray,fun _=>False,?_,?_,Bh,fun c hc=>hc.elim⟩,((gY.tr bz).aO bV (by omega)).aO b8 (by omega)⟩
   ·rw[qz,mi];rfl
   ·rw[qz];exact Ba
  | ok q=>
   obtain⟨vs,body⟩:=q;rw[SL]at qz pM zc H2;injection pM with As HP;subst As HP;have vZ:j1 l=if dq vs body≠0 then .error (dq vs body,-1)else .ok (vs,body):=qz;have bw:cu body≤100000:=by
    have:=afs (hX.symm.trans SL);omega
   refine aL ?_;refine au ?_;refine ai _ (bF [.slice av vs.length cv,.slice a n c] rfl (H2.range (by rfl))) ?_;have aaQ:iN F w9 (.agg #[.slice av vs.length cv,.slice a n c]) vs body:=zc;refine oC (NQ aaQ QW bw) ?_;rintro r bM⟨rfl,bV⟩;obtain⟨cd,kV⟩:∃cd,cd=dq vs body:=⟨_,rfl⟩;rw[←kV]at vZ⊢;have qZ:=bV.af Fq (by simp);have Ab:=bV.af AB (by simp);have Qc:=bV.af H2 (by simp);have qT:=gY.tr bV;refine au ?_;by_cases iJ:cd=0
   ·rw[if_neg (by simp[iJ])]at vZ;refine aL ?_;refine au ?_;refine ai _ (bF [.slice av vs.length cv,.slice a n c] rfl (Qc.range (by rfl))) ?_;refine ai _ (bL _ rfl rfl I4 bM) ?_;refine aj (aH [.slice av vs.length cv,.slice a n c] rfl nI qZ (by simp[pz]) (oJ _ _ _ _ _ _) ?_);intro dB u4 b8 qs;rw[bs (by rfl)]at qs;have rX:=b8.af Ab (by simp;omega);refine aj (aH [.int .i64 0,.int .i64 0] rfl gm rX (by simp) (gp _ _) ?_);intro fj u6 di xf;rw[bs (by rfl)]at xf;have Af:=di.af qs (by simp;omega);refine au ?_;have QX:∀c,F c→w5.heap.size≤c:=fun c hc=>(mH c hc).1;have aol:b2<w5.heap.size∧b3<w5.heap.size:=⟨lp.lt,lr.lt⟩;have al9:oN F w9 []:=fun c hc=>⟨QW c hc,by simp⟩;have Zq:In F bM:=QW.keep bV;have al_:oN F bM [b2]:=fun c hc=>⟨Zq c hc,by simp;have:=QX c hc;omega⟩;have Zr:In F dB:=Zq.keep b8;have ama:oN F dB [b3]:=fun c hc=>⟨Zr c hc,by simp;have:=QX c hc;omega⟩;have amb:In F fj:=Zr.keep di;have aom:iN F fj (.agg #[.slice av vs.length cv,.slice a n c]) vs body:=((aaQ.keep bV al9).keep b8 al_).keep di ama;refine zy func96 rfl rfl rfl (cV hT Af rfl) (cV hT xf rfl) ⟨⟨.agg #[.slice av vs.length cv,.slice a n c],F,?_,?_,⟨_,a,n,c,rfl,uu⟩,fun c hc=>?_⟩,(qT.aO b8 (by omega)).aO di (by omega)⟩
    ·rw[vZ];rfl
    ·rw[vZ];exact aom
    ·have:=QX c hc;have:=amb c hc;have:=cK.size;omega
   ·rw[if_pos iJ]at vZ;refine ye ?_;refine au ?_;refine ai _ (bL _ rfl rfl DC bM) ?_;refine au ?_;refine ai _ (bL _ rfl rfl (FE cd (-1)) bM) ?_;refine aj (aH pz rfl nI qZ (by simp[pz]) (oJ _ _ _ _ _ _) ?_);intro dB u4 b8 qs;rw[bs (by rfl)]at qs;have rX:=b8.af Ab (by simp;omega);refine aj (aH [.int .i64 cd,.int .i64 (-1)] rfl gm rX (by simp) (gp _ _) ?_);intro fj u6 di xf;rw[bs (by rfl)]at xf;have Af:=di.af qs (by simp;omega);refine au ?_;refine zy func96 rfl rfl rfl (cV hT Af rfl) (cV hT xf rfl) ⟨⟨.agg pz.toArray,fun _=>False,?_,?_,Bh,fun c hc=>hc.elim⟩,(qT.aO b8 (by omega)).aO di (by omega)⟩
    ·rw[vZ];rfl
    ·rw[vZ];exact Ba
 ·have qz:j1 l=.error (fa,fb):=by
   unfold j1;rw[if_pos (by rw[←HX];exact hz),HX]
  refine ye ?_;refine au ?_;have bz:ae [] w5 w5.drew:=(ae.refl _ _).drew;refine bC (fun w'=>True∧ak w' b5 [.int .i64 fa,.int .i64 fb] 34) [] bE ?_;have hS:True∧ak w5.drew b5 [.int .i64 fa,.int .i64 fb] 34:=⟨trivial,bz.af yQ (by simp)⟩;refine bD 0 _ rfl (fun w=>bL _ rfl rfl DC w) ?_;refine aI 1 _ rfl (fun w9 aq=>bF [.int .i64 fa,.int .i64 fb] rfl (aq.2.range (by rfl))) hS ?_;refine a8 2 rfl (aH pz rfl nI (bz.af lp (by simp)) (by simp[pz]) (oJ _ _ _ _ _ _) ?_);intro bM zY bV qZ;rw[bs (by rfl)]at qZ;refine⟨fun _=>⟨trivial,bV.af hS.2 (by simp;exact B3.symm)⟩,?_⟩;have Ab:=bV.af (bz.af lr (by simp)) (by simp;omega);refine a8 3 rfl (aH [.int .i64 fa,.int .i64 fb] rfl gm Ab (by simp) (gp _ _) ?_);intro dB u4 b8 rX;rw[bs (by rfl)]at rX;have qs:=b8.af qZ (by simp;omega);refine⟨fun _=>⟨trivial,(b8.af (bV.af hS.2 (by simp;exact B3.symm)) (by simp;exact LH.symm))⟩,?_⟩;refine bm ?_;refine zy func96 rfl rfl rfl (cV hT qs rfl) (cV hT rX rfl) ⟨⟨.agg pz.toArray,fun _=>False,?_,?_,Bh,fun c hc=>hc.elim⟩,((cK.tr bz).aO bV (by omega)).aO b8 (by omega)⟩
  ·rw[qz];rfl
  ·rw[qz];exact Ba
abbrev rB:Nat:=211
theorem BO:rB≠dA:=by decide
theorem ON:dH prog 3 1=true:=by kernel_rfl
theorem J6:dH prog 2 1=true:=by kernel_rfl
theorem X8:dH prog 28 1=true:=by kernel_rfl
def CS(c:Nat):Value:=.iface 264 (.agg #[.int .i64 (c:Nat)])
theorem aif(a:Int):prog.built 264 [(0,.int .i64 a)]=some [Value.int .i64 a].toArray:=by kernel_rfl
theorem I_(c:Nat)(w:World):End prog 207 [.int .i64 (c:Nat)] w (fun _ _=>False) (fun v w'=>v=CS c∧w'=w):=by
 refine mO 5 func207 ?_;refine au ?_;refine ai _ (bL _ rfl rfl (aif (c:Nat)) w) ?_;refine ai _ (VE (by decide+kernel) rfl rfl w) ?_;refine dW func207 rfl rfl (VF rfl rfl ?_);exact⟨rfl,rfl⟩
theorem UJ(t:Bool)(w:World):aC prog 272 [.bool t] w fun r w'=>r=.int .i64 (sT t)∧w'=w:=by
 refine aG 4 func272 ?_;cases t
 ·refine au ?_;exact ay func272 rfl ⟨rfl,rfl⟩
 ·refine au ?_;exact ay func272 rfl ⟨rfl,rfl⟩
structure Rf(w w':World):Prop where
 size:w.heap.size≤w'.heap.size
 af:∀{c:Nat} {L:List Value} {e:TypeId},ak w c L e→e≠rB→e≠dA→ak w' c L e
theorem Rf.refl(w:World):Rf w w:=⟨Nat.le_refl _,fun h _ _=>h⟩
theorem Rf.tr{w w' cg:World}(h:Rf w w')(h':Rf w' cg):Rf w cg:=⟨Nat.le_trans h.size h'.size,fun hb h1 h2=>h'.af (h.af hb h1 h2) h1 h2⟩
theorem Rf.bG{w w':World}(h:ae [] w w'):Rf w w':=⟨h.size,fun hb _ _=>h.af hb (by simp)⟩
theorem Rf.of{w w':World}{fp:List Nat}(h:ae fp w w')(hf:∀k∈fp,∃L e,ak w k L e∧(e=rB∨e=dA)):Rf w w':=
 ⟨h.size,fun hb h1 h2=>h.af hb fun hm=>by
  obtain⟨L,e,iT,he⟩:=hf _ hm;rcases he with he|he
  ·exact ak.ne hb iT (fun h=>h1 (h.trans he)) rfl
  ·exact ak.ne hb iT (fun h=>h2 (h.trans he)) rfl⟩
structure Kx where
 vs:List aJ
 bd:List ST
 F:Nat→Prop
 inp:List Int
 fuel:Nat
 w0:World
 b:Nat
 vv:Value
 bv:Value
 cv:Value
structure Kx.Ok(C:Kx):Prop where
 pr:iN C.F C.w0 (.agg #[C.vv,C.bv]) C.vs C.bd
 hF:In C.F C.w0
 sz:∀x∈C.vs,1≤x.2∧x.2≤48
 vl:C.vs.length≤8
 sum:aT C.vs≤48
 fu:C.fuel≤3000
 il:C.inp.length≤40
 ge:C.w0.heap.size≤C.b
theorem Kx.Ok.sized{C:Kx}(h:C.Ok):ua C.vs:=⟨by have:=h.vl;omega,fun x hx=>by have:=h.sz x hx;omega⟩
def Un(w0:World)(inp:List Int)(rd:Nat)(u:Value):Prop:=
 ∃a c,u=.slice a (inp.length-rd) c∧inp.length-rd≤c∧rd≤inp.length∧(rd<inp.length→∃g q,a=some ⟨g,q+rd,none⟩∧g<w0.heap.size∧w0.rangeAt g q (dZ inp))
def AJ(C:Kx)(n:Nat)(u o:Value):List Value:=[.int .i64 (n:Nat),.int .i64 (C.fuel:Nat),C.vv,C.bv,u,C.cv,o]
structure Ru(C:Kx)(w:World)(u o:Value)(s:Es):Prop where
 kp:ae [] C.w0 w
 bk:ak w C.b (AJ C s.n u o) rB
 un:Un C.w0 C.inp s.read u
 rc:bl w C.w0.heap.size C.cv s.cells
 ro:bl w C.w0.heap.size o s.out
 ap:jI C.cv o
 cl:(s.cells.length:Int)=aT C.vs
 le:s.n≤C.fuel
 ol:s.out.length≤s.n
def Rt(C:Kx)(w:World)(s:Es):Prop:=∃u o,Ru C w u o s
section
variable{C:Kx}{w w1 w2:World}{u o:Value}{s:Es}
theorem Ru.aA(h:Ru C w u o s)(hk:ae [] w w1):Ru C w1 u o s:=
 ⟨h.kp.tr hk,hk.af h.bk (by simp),h.un,h.rc.keep hk (by simp),h.ro.keep hk (by simp),h.ap,h.cl,h.le,h.ol⟩
theorem Rt.aA(h:Rt C w s)(hk:ae [] w w1):Rt C w1 s:=let⟨u,o,h⟩:=h;⟨u,o,h.aA hk⟩
theorem Rt.kp(h:Rt C w s):ae [] C.w0 w:=let⟨_,_,h⟩:=h;h.kp
theorem Rt.le(h:Rt C w s):s.n≤C.fuel:=let⟨_,_,h⟩:=h;h.le
theorem Ru.put(hC:C.Ok)(h:Ru C w u o s)(hk:ae [C.b] w w1){u':Value}{n rd:Nat}(hb:ak w1 C.b (AJ C n u' o) rB)(hu:Un C.w0 C.inp rd u')(hn:n≤C.fuel)(iZ:s.n≤n):Ru C w1 u' o {s with n:=n,read:=rd}∧Rf w w1:=
 ⟨⟨h.kp.aO hk hC.ge,hb,hu,h.rc.keep hk (h.rc.ne h.bk BO),h.ro.keep hk (h.ro.ne h.bk BO),h.ap,h.cl,hn,Nat.le_trans h.ol iZ⟩,Rf.of hk fun k hm=>⟨AJ C s.n u o,rB,by rw[List.mem_singleton.1 hm];exact h.bk,.inl rfl⟩⟩
theorem Ru.set(h:Ru C w u o s){j:Nat}(hj:j<s.cells.length){g cap:Nat}(hv:C.cv=.slice (some ⟨g,0,none⟩) s.cells.length cap):∃cur,ak w g cur dA∧j<cur.length∧∀{w':World} {n:Int},ae [g] w w'→ak w' g (b_ cur j [.int .i64 n]) dA→Ru C w' u o {s with cells:=s.cells.set j n}∧Rf w w':=by
 obtain⟨cur,h1,h2,h3⟩:=h.rc.set hj hv;refine⟨cur,h1,h2,fun{w' n} hk hb=>⟨⟨?_,hk.af h.bk ?_,h.un,h3 hb,?_,h.ap,by rw[List.length_set];exact h.cl,h.le,h.ol⟩,Rf.of hk fun k hm=>⟨cur,dA,by rw[List.mem_singleton.1 hm];exact h1,.inr rfl⟩⟩⟩
 ·refine h.kp.trans hk fun k hm=>.inr ?_;rw[List.mem_singleton.1 hm];exact(h.rc.lt g (by rw[hv];simp[aW,Value.ownBlock])).1
 ·simp only[List.mem_singleton];exact ak.ne h.bk h1 BO
 ·refine h.ro.keep hk fun k aK hm=>?_;rw[List.mem_singleton.1 hm]at aK;exact h.ap g (by rw[hv];simp[aW,Value.ownBlock]) aK
end
def AK{α:Type}(C:Kx)(f:Nat)(args:List Value)(w:World)(X:Ex α)(K:α→Value→World→Prop):Prop:=
 End prog f args w (fun r w'=>∃a,X=.ok a∧K a r w'∧Rf w w') (fun v w'=>∃e,X=.error e∧v=CS e.1∧Rt C w' e.2∧Rf w w')
theorem qJ{α β:Type}{C:Kx}{g:Nat}{args:List Value}{w w1:World}{Y:Ex α}{T:Ex β}{k:α→Ex β}{K:α→Value→World→Prop}{KK:Value→World→Prop}(h:AK C g args w1 Y K)(hX:T=dS Y k)(hR:Rf w w1) (hk:∀a r w',T=k a→K a r w'→Rf w1 w'→Rf w w'→KK r w'):End prog g args w1 KK (fun v w'=>∃e,T=.error e∧v=CS e.1∧Rt C w' e.2∧Rf w w'):=by
 refine End.mono h ?_ ?_
 ·rintro r w'⟨a,rfl,h1,h2⟩;exact hk a r w' hX h1 h2 (hR.tr h2)
 ·rintro v w'⟨e,rfl,h1,h2,h3⟩;exact⟨e,hX,h1,h2,hR.tr h3⟩
theorem Pe{α:Type}(X:Ex α):X=dS X Except.ok:=by cases X<;>rfl
section
variable{C:Kx}{w:World}{u o:Value}{s:Es}
theorem Jh(hC:C.Ok)(h:Rt C w s):AK C 178 [.pointer (some ⟨C.b,0,none⟩)] w (tick C.fuel s) fun s2 r w'=>r=.tuple #[]∧s2={s with n:=s.n+1}∧Rt C w' s2:=by
 obtain⟨u,o,h⟩:=h;have hle:=h.le;have hfu:=hC.fu;refine mO 19 func178 ?_;refine aP ?_;refine bT ?_;refine bT ?_;refine bC (fun w'=>ae [] w w') [] bE ?_;have hS:ae [] w w.drew:=(ae.refl _ _).drew;generalize w.drew=w2 at*;refine tk 0 ?_;refine tk 1 ?_;refine tk 2 ?_;refine aI 3 (.int .i64 (s.n:Nat)) rfl (fun w9 aq=>aB rfl ((aq.af h.bk (by simp)).cell rfl)) hS ?_;refine tk 4 ?_;refine tk 5 ?_;refine tk 6 ?_;refine aI 7 (.int .i64 (C.fuel:Nat)) rfl (fun w9 aq=>aB rfl ((aq.af h.bk (by simp)).cell rfl)) hS ?_;have h2:=h.aA hS;by_cases az:s.n<C.fuel
 ·have hX:tick C.fuel s=.ok {s with n:=s.n+1}:=by unfold tick;rw[if_pos az]
  refine yO 8 ?_;refine bm ?_;refine lB h2.bk ?_;refine nM ((s.n+1:Nat):Int) ?_;refine au ?_;refine aj (aH [.int .i64 ((s.n+1:Nat):Int)] rfl ON h2.bk (by simp[AJ]) (eK _) ?_);intro w3 cw aw aQ;refine au ?_;obtain⟨h3,mI⟩:=h2.put hC aw (n:=s.n+1) (rd:=s.read) aQ h2.un (by omega) (by omega);exact bK func178 rfl ⟨_,hX,⟨rfl,rfl,u,o,h3⟩,(Rf.bG hS).tr mI⟩
 ·have hX:tick C.fuel s=.error (13,s):=by unfold tick;rw[if_neg az]
  refine yN 8 ?_;refine bm ?_;refine au ?_;refine dW func178 rfl rfl (dF (fst:=[]) (cap:=[]) rfl rfl rfl rfl (by decide+kernel) ((I_ 13 _).mono ?_ ?_))
  ·intro v w' hf;exact hf.elim
  ·rintro v w'⟨rfl,rfl⟩;exact⟨_,hX,rfl,⟨u,o,h2⟩,Rf.bG hS⟩
def BP(inp:List Int)(s:Es):Ex (Int×Es):=if s.read<inp.length then .ok (inp.getD s.read 0,{s with read:=s.read+1})else .error (12,s)
theorem agG(hC:C.Ok)(h:Rt C w s):AK C 235 [.pointer (some ⟨C.b,0,none⟩)] w (BP C.inp s) fun a r w'=>r=.int .i64 a.1∧a.2={s with read:=s.read+1}∧Rt C w' a.2:=by
 obtain⟨u,o,h⟩:=h;have fF:=hC.il;obtain⟨a,c,rfl,hc,oY,eJ⟩:=h.un;refine mO 26 func235 ?_;refine lB h.bk ?_;refine au ?_;by_cases az:s.read<C.inp.length
 ·have hX:BP C.inp s=.ok (C.inp.getD s.read 0,{s with read:=s.read+1}):=by unfold BP;rw[if_pos az]
  obtain⟨g,q,rfl,hg,dD⟩:=eJ az;clear eJ;refine aL ?_;refine lB h.bk ?_;refine ai _ (bJ 0 rfl (by omega) w) ?_;have cZ:C.inp[s.read]?=some (C.inp.getD s.read 0):=by rw[List.getD_eq_getElem?_getD,List.getElem?_eq_getElem az];rfl
  have fB:w.cell? ⟨g,q+s.read,none⟩=some (.int .i64 (C.inp.getD s.read 0)):=ft dD h.kp hg (by simp) s.read _ (Kg cZ);refine ai _ (aB rfl (fB)) ?_;refine lB h.bk ?_;refine ai _ (Oj hT rfl rfl rfl rfl rfl (by omega) w) ?_;refine au ?_;refine aj (aH [.slice (if c=1 then some ⟨g,q+s.read,none⟩else some ⟨g,q+s.read+1,none⟩) (C.inp.length-s.read-1) (c-1)] rfl X8 h.bk (by simp[AJ]) (nL rfl) ?_);intro w3 cw aw aQ;refine au ?_;have hu:Un C.w0 C.inp (s.read+1) (.slice (if c=1 then some ⟨g,q+s.read,none⟩else some ⟨g,q+s.read+1,none⟩) (C.inp.length-s.read-1) (c-1)):=
   ⟨if c=1 then some ⟨g,q+s.read,none⟩else some ⟨g,q+s.read+1,none⟩,c-1,by rw[show C.inp.length-(s.read+1)=C.inp.length-s.read-1 by omega],by omega,by omega,fun h1=>⟨g,q,by rw[if_neg (by omega)];rfl,hg,dD⟩⟩
  obtain⟨h3,mI⟩:=h.put hC aw (n:=s.n) (rd:=s.read+1) aQ hu h.le (Nat.le_refl _);exact ay func235 rfl ⟨_,hX,⟨rfl,rfl,_,o,h3⟩,mI⟩
 ·have hX:BP C.inp s=.error (12,s):=by unfold BP;rw[if_neg az]
  refine ye ?_;refine au ?_;refine dW func235 rfl rfl (dF (fst:=[]) (cap:=[]) rfl rfl rfl rfl (by decide+kernel) ((I_ 12 _).mono ?_ ?_))
  ·intro v w' hf;exact hf.elim
  ·rintro v w'⟨rfl,rfl⟩;exact⟨_,hX,rfl,⟨_,o,h⟩,Rf.refl _⟩
end
theorem Oo{vs:List aJ}{k:Nat}(hk:k<vs.length):jk vs ((k:Nat):Int)=vs[k].2:=by
 unfold jk;rw[Int.toNat_natCast,List.getD_eq_getElem?_getD,List.getElem?_eq_getElem hk];rfl
theorem aih{vs:List aJ}(hz:∀x∈vs,1≤x.2∧x.2≤48){v n:Int}(kY:0≤v)(du:v.toNat<vs.length)(_:0≤n)(hn:n<jk vs v):0≤cellOf vs v∧cellOf vs v+n<aT vs:=by
 obtain⟨k,rfl⟩:∃k:Nat,v=(k:Nat):=⟨v.toNat,by omega⟩;rw[Int.toNat_natCast]at du;rw[Oo du]at hn;have h1:=A0 (List.getElem?_eq_getElem du);have h2:=TE hz (show k+1≤vs.length by omega);have h3:=TE hz (Nat.zero_le k);rw[List.take_length]at h2;have e:cellOf vs ((k:Nat):Int)=aT (vs.take k):=by unfold cellOf;rw[Int.toNat_natCast]
 rw[e];have h4:aT (vs.take 0)=0:=by simp[aT]
 omega
theorem size_pos{vs:List aJ}(hz:∀x∈vs,1≤x.2∧x.2≤48){v:Int}(kY:0≤v)(du:v.toNat<vs.length):1≤jk vs v∧jk vs v≤48:=by
 obtain⟨k,rfl⟩:∃k:Nat,v=(k:Nat):=⟨v.toNat,by omega⟩;rw[Int.toNat_natCast]at du;rw[Oo du];exact hz _ (List.getElem_mem _)
section
variable{C:Kx}{w:World}{u o:Value}{s:Es}
theorem FW(hC:C.Ok)(h:Ru C w u o s)(v n:Int)(kY:0≤v)(du:v.toNat<C.vs.length):End prog 234 [.pointer (some ⟨C.b,0,none⟩),.int .i64 v,.int .i64 n] w (fun r w'=>(0≤n∧n<jk C.vs v)∧(cellOf C.vs v+n).toNat<s.cells.length∧(∃g cap,C.cv=.slice (some ⟨g,0,none⟩) s.cells.length cap∧r=.pointer (some ⟨g,(cellOf C.vs v+n).toNat,none⟩))∧ae [] w w') (fun x w'=>¬(0≤n∧n<jk C.vs v)∧x=CS 11∧ae [] w w'):=by
 have bw:=size_pos hC.sz kY du;have iY:=aih hC.sz kY du (n:=n);have QL:=hC.sum;have ek:=h.cl;have hpr:=hC.pr;obtain⟨xo,jf,pO,kx,jt⟩:=hpr;injection pO with pO;have z_:=congrArg Array.toList pO;simp only[List.cons.injEq,and_true]at z_;obtain⟨anR,z_⟩:=z_;rw[←anR]at kx;have hk:v=((v.toNat:Nat):Int):=by omega
 have xq:=Oo du;rw[←hk]at xq;have xn:C.vs[v.toNat]?=some C.vs[v.toNat]:=List.getElem?_eq_getElem du;obtain⟨vb,vq,vc,hve,CA,xp⟩:=kx.at xn;refine mO 36 func234 ?_;refine au ?_;by_cases K3:n<0
 ·refine ye ?_;refine au ?_;refine dW func234 rfl rfl (dF (fst:=[]) (cap:=[]) rfl rfl rfl rfl (by decide+kernel) ((I_ 11 _).mono ?_ ?_))
  ·intro v w' hf;exact hf.elim
  ·rintro v w'⟨rfl,rfl⟩;exact⟨by omega,rfl,ae.refl _ _⟩
 ·refine aL ?_;refine au ?_;refine ai (.slice (some ⟨vb,vq,none⟩) C.vs.length vc) (aB rfl (h.bk.cell (by rw[←hve];rfl))) ?_;refine au ?_;refine ai _ (A7 v.toNat hT rfl rfl rfl rfl hk du w) ?_;refine au ?_;refine ai _ (aB rfl ((ft xp h.kp (hC.hF _ CA) (by simp)) 1 (.int .i64 C.vs[v.toNat].2) rfl)) ?_;by_cases ij:n<jk C.vs v
  ·obtain⟨hi1,Sj⟩:=iY (by omega) ij;rw[xq]at ij;refine aL ?_;refine au ?_;obtain⟨j,hj⟩:∃j:Nat,j=(cellOf C.vs v+n).toNat:=⟨_,rfl⟩;have jv:j<s.cells.length:=by omega
   obtain⟨g,cap,cL,aah,Aj⟩:=h.rc.Cs (List.getElem?_eq_getElem jv);refine bC (fun w'=>ae [] w w') [] bE ?_;have hS:ae [] w w.drew:=(ae.refl _ _).drew;generalize w.drew=w2 at*;refine tk 0 ?_;refine tk 1 ?_;refine tk 2 ?_;refine aI 3 (.slice (some ⟨g,0,none⟩) s.cells.length cap) rfl (fun w9 aq=>aB rfl ((aq.af h.bk (by simp)).cell (by rw[←cL];rfl))) hS ?_;refine tk 4 ?_;refine tk 5 ?_;refine tk 6 ?_;refine aI 7 (.agg #[C.vv,C.bv]) rfl (fun w9 aq=>bF [C.vv,C.bv] rfl ((aq.af h.bk (by simp)).range (by rfl))) hS ?_;refine tk 8 ?_;refine tk 10 ?_;refine dC 9 (N9 (hC.pr.keep (h.kp.tr hS) hC.hF.stays) (hC.hF.keep (h.kp.tr hS)) hC.sized v) ?_;rintro r w3⟨rfl,aw⟩;refine⟨fun _=>hS.tr aw,?_⟩;refine uT 11 ((j:Nat)) rfl (by decide+kernel) rfl rfl rfl rfl rfl (by simp only[kK];omega) ?_;refine bD 12 _ rfl (fun w=>bJ j rfl jv w) ?_;refine tk 13 ?_;refine bm ?_;refine au ?_;refine ay func234 rfl ⟨⟨by omega,by rw[xq];exact ij⟩,by omega,⟨g,cap,cL,?_⟩,hS.tr aw⟩;rw[←hj,Nat.zero_add,Nat.mul_one]
  ·have anS:=ij;rw[xq]at ij;refine ye ?_;refine au ?_;refine dW func234 rfl rfl (dF (fst:=[]) (cap:=[]) rfl rfl rfl rfl (by decide+kernel) ((I_ 11 _).mono ?_ ?_))
   ·intro v w' hf;exact hf.elim
   ·rintro v w'⟨rfl,rfl⟩;exact⟨fun h=>anS h.2,rfl,ae.refl _ _⟩
end
mutual
def E8(nv:Nat):ET→Prop
 |.mk op v _ l=>1≤op∧op≤8∧l.length≤2∧(op=2∨op=3→0≤v∧v.toNat<nv)∧Lr nv l
def Lr(nv:Nat):List ET→Prop
 |[]=>True
 |t::r=>E8 nv t∧Lr nv r
end
mutual
def It(nv:Nat):ST→Prop
 |.mk op v e f b o=>1≤op∧op≤7∧(iA op=true→0≤v∧v.toNat<nv)∧(dw op=true→E8 nv e)∧(cY op=true→E8 nv f)∧Aa nv b∧Aa nv o
def Aa(nv:Nat):List ST→Prop
 |[]=>True
 |t::r=>It nv t∧Aa nv r
end
theorem X9{nv:Nat}:∀{l:List ET} {i:Nat} {t:ET},Lr nv l→l[i]?=some t→E8 nv t
 |[],_,_,_,h=>by simp at h
 |x::r,0,t,h,e=>by simp at e;subst e;exact h.1
 |x::r,i+1,t,h,e=>by simp at e;exact X9 h.2 e
theorem X_{nv:Nat}:∀{l:List ST} {i:Nat} {t:ST},Aa nv l→l[i]?=some t→It nv t
 |[],_,_,_,h=>by simp at h
 |x::r,0,t,h,e=>by simp at e;subst e;exact h.1
 |x::r,i+1,t,h,e=>by simp at e;exact X_ h.2 e
theorem afb(op:Int):partsOf op≤2:=by
 unfold partsOf;split
 ·omega
 ·split
  ·omega
  ·split<;>omega
mutual
theorem OO{nv:Nat}:∀(t:ET) {d k k':Nat},gO nv t d k=.ok k'→E8 nv t
 |.mk op v n l,d,k,k',h=>by
  obtain⟨_,h1,k1,h2⟩:=DE h;obtain⟨a,b,c,_,e,_⟩:=DF h1;have:=afb op;exact⟨a,b,by omega,e,WO l h2⟩
theorem WO{nv:Nat}:∀(l:List ET) {d k k':Nat},eY nv l d k=.ok k'→Lr nv l
 |[],_,_,_,_=>trivial
 |t::r,d,k,k',h=>by
  obtain⟨⟨k1,h1⟩,k2,h2⟩:=Du h;exact⟨OO t h1,WO r h2⟩
end
mutual
theorem aj2{nv:Nat}:∀(t:ST) {d k k':Nat},kM nv t d k=.ok k'→It nv t
 |.mk op v e f b o,d,k,k',h=>by
  obtain⟨_,h1,h2,h3,⟨k1,k2,h4⟩,k3,k4,h5⟩:=DG h;obtain⟨a,a',_,_,_,_,c,_⟩:=DH h1;exact⟨a,a',c,fun hn=>(let⟨_,_,hc⟩:=h2 hn;OO e hc),fun hn=>(let⟨_,_,hc⟩:=h3 hn;OO f hc),JP b h4,JP o h5⟩
theorem JP{nv:Nat}:∀(l:List ST) {d k k':Nat},dI nv l d k=.ok k'→Aa nv l
 |[],_,_,_,_=>trivial
 |t::r,d,k,k',h=>by
  obtain⟨⟨k1,h1⟩,k2,h2⟩:=Dw h;exact⟨aj2 t h1,JP r h2⟩
end
theorem tR{α β γ:Type}(x:Ex α)(f:α→Ex β)(g:β→Ex γ):dS (dS x f) g=dS x fun a=>dS (f a) g:=by cases x<;>rfl
theorem VG{l:List Int}{k:Int}(h:k.toNat<l.length):l[k.toNat]?=some (cellAt l k):=by
 unfold cellAt;rw[List.getD_eq_getElem?_getD,List.getElem?_eq_getElem h];rfl
theorem Rf.aO{w w' cg:World}{k:Nat}(h:Rf w w')(hk:ae [k] w' cg)(ij:w.heap.size≤k):Rf w cg:=
 ⟨Nat.le_trans h.size hk.size,fun hb h1 h2=>hk.af (h.af hb h1 h2) (by simp only[List.mem_singleton];have:=hb.lt;omega)⟩
def Iu(xs:List Int):List Value:=[.int .i64 (xs.getD 0 0),.int .i64 (xs.getD 1 0)]
theorem aj3{xs:List Int}{i:Nat}(hi:xs.length=i)(h2:i<2)(y:Int):b_ (Iu xs) (0+i*1) [.int .i64 y]=Iu (xs++[y]):=by
 match xs,hi,h2 with
 |[],rfl,_=>rfl
 |[x],rfl,_=>rfl
 |x::z::r,rfl,h=>simp at h;omega
theorem aj4:((prog.info? 307).bind (·.zero)).map (·.cells)=some (Iu []).toArray:=by kernel_rfl
theorem aj5:((prog.info? 141).bind (·.zero)).map (·.cells)=some [Value.int .i64 0,.int .i64 0,.int .i64 0,.slice none 0 0].toArray:=by kernel_rfl
theorem aj6:dH prog 141 4=true:=by kernel_rfl
theorem Zj:141≠rB:=by decide
theorem Zk:141≠dA:=by decide
theorem PR:307≠rB:=by decide
theorem KP:307≠dA:=by decide
def ExI(C:Kx)(z:Nat):Prop:=∀(t:ET),fO t<z→E8 C.vs.length t→∀{w:World} {cs:List Value} {s:Es},dY C.F C.w0 cs t→Rt C w s→
  AK C 260 [.pointer (some ⟨C.b,0,none⟩),.agg cs.toArray] w (oy C.vs C.fuel t s) fun a r w'=>r=.int .i64 a.1∧s.n≤a.2.n∧Rt C w' a.2
theorem VH{C:Kx}(hC:C.Ok):∀(z:Nat),ExI C z:=by
 intro z;induction z with
 |zero=>intro t ht;omega
 | succ z vA=>
  intro t ht sx w cs s hX h;obtain⟨op,v,n,l⟩:=t;obtain⟨lv,rfl,hE⟩:=hX.inv;obtain⟨a,cap,rfl⟩:=hE.form;obtain⟨gx,ho8,Aq,E9,oY⟩:=sx;simp only[fO]at ht;obtain⟨bq,gV⟩:∃bq,bq=oy C.vs C.fuel (.mk op v n l) s:=⟨_,rfl⟩;rw[←gV];have g_:bq=dS (yE C.vs C.fuel (l.drop 0) s) fun c=>dS (tick C.fuel c.2) fun s2=>yD C.vs op v n ([]++c.1) s2:=by
   rw[gV];rfl
  clear gV;refine mO 80 func260 ?_;refine au ?_;refine aj (bY [.int .i64 op,.int .i64 v,.int .i64 n,.slice a l.length cap] rfl ?_);intro w1 x3 fX bt ah cm;refine au ?_;refine aj (bO _ rfl aj4 ?_);intro w2 x5 gw cE an zb;have br:=ah.tr an;have h2:=h.aA br;have gZ:=an.af cm (by simp);have pU:Rf w w2:=Rf.bG br;refine lB gZ ?_;refine au ?_;refine cP (fun m σ w'=>∃(i:Nat) (xs:List Int) (s':Es),i≤l.length∧m=l.length-i∧xs.length=i∧σ=[(0,.pointer (some ⟨C.b,0,none⟩)),(3,.pointer (some ⟨x3,0,none⟩)),(5,.pointer (some ⟨x5,0,none⟩)),(11,.slice a l.length cap),(12,.int .i64 (l.length:Nat)),(13,.int .i64 (i:Nat))]∧
   bq=dS (yE C.vs C.fuel (l.drop i) s') (fun c=>dS (tick C.fuel c.2) fun s2=>yD C.vs op v n (xs++c.1) s2)∧Rt C w' s'∧s.n≤s'.n∧Rf w w'∧ak w' x3 [.int .i64 op,.int .i64 v,.int .i64 n,.slice a l.length cap] 141∧ak w' x5 (Iu xs) 307)
   l.length _ ?_ ⟨0,[],s,by omega,by omega,rfl,rfl,g_,h2,Nat.le_refl _,pU,gZ,zb⟩ ?_
  ·exact⟨rfl,rfl,rfl,rfl,rfl,rfl,trivial⟩
  rintro m σ w6 ih⟨i,xs,s',hi,rfl,pK,rfl,xJ,h6,uv,vM,yS,My⟩;refine au ?_;by_cases az:i<l.length
  ·refine ye ?_;have j_:l[i]?=some l[i]:=List.getElem?_eq_getElem az;obtain⟨b1,q1,c1,ci,tC,og,fh,eO⟩:=hE.at j_;cases tC;have GX:=Jr j_;have K7:=Js l (i+1);have nt:bq=dS (oy C.vs C.fuel l[i] s') fun y=>dS (yE C.vs C.fuel (l.drop (i+1)) y.2) fun c=>dS (tick C.fuel c.2) fun s2=>yD C.vs op v n ((xs++[y.1])++c.1) s2:=by
    rw[xJ,List.drop_eq_getElem_cons az];simp only[yE];rw[tR];congr 1;funext y;rw[tR];congr 1;funext c;show dS (tick C.fuel c.2) (fun s2=>yD C.vs op v n (xs++y.1::c.1) s2)=_;rw[show xs++y.1::c.1=xs++[y.1]++c.1 by simp]
   refine au ?_;refine ai _ (bJ i rfl az w6) ?_;refine ai (.agg ci.toArray) (h_ ci hT rfl rfl (by rw[eO.length];rfl) (ft fh h6.kp (hC.hF _ og) (by simp))) ?_;refine aj (bO _ rfl aj5 ?_);intro w7 x7 sd jr aN eC;refine au ?_;refine aj (aH ci rfl (by rw[eO.length];exact aj6) eC (by rw[eO.length];simp) eO.one ?_);intro w8 jP aS cB;rw[bs (by rw[eO.length];rfl)]at cB;have eP:ae [] w6 w8:=aN.aO aS (by omega);refine au ?_;refine ai (.agg ci.toArray) (h_ ci hT rfl rfl (by rw[eO.length];rfl) (cB.range (by simp))) ?_;refine dW func260 rfl rfl (dF (fst:=[]) (cap:=[]) rfl rfl rfl rfl (by decide+kernel) (qJ (vA l[i] (by omega) (X9 oY j_) eO (h6.aA eP)) nt (vM.tr (Rf.bG eP)) ?_));rintro⟨y,s9⟩ r w9 gB⟨rfl,hn9,h9⟩ hQ9 tH;have sy:=hQ9.af (eP.af yS (by simp)) Zj Zk;have zc:=hQ9.af (eP.af My (by simp)) PR KP;have anT:w.heap.size≤x5:=by have:=ah.size;omega
   refine ai _ (nC i hT rfl rfl rfl rfl rfl (by omega) w9) ?_;refine aj (aH [.int .i64 y] rfl J6 zc (by simp[Iu];omega) (eK _) ?_);intro bM zY bV ld;rw[aj3 pK (by omega)]at ld;refine nM ((i+1:Nat):Int) ?_;refine au ?_;have me:Rt C bM s9:=by
    obtain⟨u,o,h9⟩:=h9;refine⟨u,o,h9.kp.aO bV (by have:=h.kp.size;omega),bV.af h9.bk ?_,h9.un,h9.rc.keep bV (h9.rc.ne zc KP),h9.ro.keep bV (h9.ro.ne zc KP),h9.ap,h9.cl,h9.le,h9.ol⟩;simp only[List.mem_singleton];exact ak.ne h9.bk zc PR.symm
   have QM:=bV.af sy (by simp only[List.mem_singleton];exact ak.ne sy zc (by decide));refine bj ?_ (ih (l.length-(i+1)) [(0,.pointer (some ⟨C.b,0,none⟩)),(3,.pointer (some ⟨x3,0,none⟩)),(5,.pointer (some ⟨x5,0,none⟩)),(11,.slice (some ⟨b1,q1,none⟩) l.length cap),(12,.int .i64 (l.length:Nat)),(13,.int .i64 ((i+1:Nat):Int))] bM (by omega) ⟨i+1,xs++[y],s9,by omega,rfl,by simp[pK],rfl,gB,me,by dsimp only at hn9;omega,tH.aO bV anT,QM,ld⟩);exact⟨rfl,rfl,rfl,rfl,rfl,rfl,trivial⟩
  ·refine aL ?_;rw[List.drop_of_length_le (by omega)]at xJ;have nt:bq=dS (tick C.fuel s') fun s2=>yD C.vs op v n xs s2:=by
    rw[xJ];show dS (tick C.fuel s') (fun s2=>yD C.vs op v n (xs++[]) s2)=_;rw[List.append_nil]
   clear xJ;refine au ?_;refine dW func260 rfl rfl (dF (fst:=[]) (cap:=[]) rfl rfl rfl rfl (by decide+kernel) (qJ (Jh hC h6) nt vM ?_));rintro s8 r w8 xK⟨rfl,aai,h8⟩ hQ8 tJ;have AL:s.n≤s8.n:=by rw[aai];show s.n≤s'.n+1;omega
   clear aai nt;have rn:=hQ8.af yS Zj Zk;have hP8:=hQ8.af My PR KP;refine au ?_;refine bC (fun w'=>ae [] w8 w') [] bE ?_;have hS:ae [] w8 w8.drew:=(ae.refl _ _).drew;generalize w8.drew=w9 at*;refine bD 0 _ rfl (fun w=>nC 0 hT rfl rfl rfl rfl rfl (by omega) w) ?_;refine aI 1 (.int .i64 (xs.getD 0 0)) rfl (fun w9 aq=>aB rfl ((aq.af hP8 (by simp)).cell rfl)) hS ?_;refine bD 2 _ rfl (fun w=>nC 1 hT rfl rfl rfl rfl rfl (by omega) w) ?_;refine aI 3 (.int .i64 (xs.getD 1 0)) rfl (fun w9 aq=>aB rfl ((aq.af hP8 (by simp)).cell rfl)) hS ?_;refine tk 4 ?_;refine tk 5 ?_;refine bm ?_;replace h8:=h8.aA hS;have sy:=hS.af rn (by simp);replace tJ:=tJ.tr (Rf.bG hS);generalize hy0:xs.getD 0 0=y0 at*;generalize Iw:xs.getD 1 0=y1 at*;have gB:=xK;unfold yD at gB;rw[hy0,Iw]at gB;clear xK;refine lB sy ?_;refine au ?_;by_cases h1:op=1
   ·refine ye ?_;rw[if_pos h1]at gB;refine lB sy ?_;refine au ?_;exact ay func260 rfl ⟨_,gB,⟨rfl,AL,h8⟩,tJ⟩
   refine aL ?_;refine au ?_;rw[if_neg h1]at gB;by_cases h2:op=2
   ·obtain⟨kY,du⟩:=E9 (.inl h2);have bw:=size_pos hC.sz kY du;refine ye ?_;rw[if_pos h2]at gB;refine lB sy ?_;obtain⟨u,o,h8⟩:=h8;refine dW func260 rfl rfl (dF (fst:=[]) (cap:=[]) rfl rfl rfl rfl (by decide+kernel) ((FW hC h8 v 0 kY du).mono ?_ ?_))
    rotate_left
    ·rintro x w'⟨ku,_⟩;exfalso;omega
    rintro r bM⟨_,jv,⟨g,cap,cL,rfl⟩,bV⟩;have me:=h8.aA bV;rw[Int.add_zero]at jv⊢;obtain⟨g',iF,Hd,fB⟩:=me.rc.at (VG jv);have Mh:g=g':=by rw[cL]at Hd;injection Hd with e1;injection e1 with e1;injection e1
    subst Mh;refine au ?_;refine ai _ (aB rfl (fB)) ?_;refine au ?_;exact ay func260 rfl ⟨_,gB,⟨rfl,AL,u,o,me⟩,tJ.tr (Rf.bG bV)⟩
   refine aL ?_;refine au ?_;rw[if_neg h2]at gB;by_cases h3:op=3
   ·obtain⟨kY,du⟩:=E9 (.inr h3);refine ye ?_;rw[if_pos h3]at gB;refine lB sy ?_;refine au ?_;obtain⟨u,o,h8⟩:=h8;refine dW func260 rfl rfl (dF (fst:=[]) (cap:=[]) rfl rfl rfl rfl (by decide+kernel) ((FW hC h8 v y0 kY du).mono ?_ ?_))
    rotate_left
    ·rintro x w'⟨ku,rfl,bV⟩;rw[if_neg ku]at gB;exact⟨_,gB,rfl,⟨u,o,h8.aA bV⟩,tJ.tr (Rf.bG bV)⟩
    rintro r bM⟨Eo,jv,⟨g,cap,cL,rfl⟩,bV⟩;rw[if_pos Eo]at gB;have me:=h8.aA bV;obtain⟨g',iF,Hd,fB⟩:=me.rc.at (VG jv);have Mh:g=g':=by rw[cL]at Hd;injection Hd with e1;injection e1 with e1;injection e1
    subst Mh;refine au ?_;refine ai _ (aB rfl (fB)) ?_;refine au ?_;exact ay func260 rfl ⟨_,gB,⟨rfl,AL,u,o,me⟩,tJ.tr (Rf.bG bV)⟩
   refine aL ?_;refine au ?_;rw[if_neg h3]at gB;unfold mq at gB;by_cases h4:op=4
   ·refine ye ?_;rw[if_pos h4]at gB;refine au ?_;refine ai _ (bP _ _ _ _ rfl (by rfl) _) ?_;refine au ?_;exact ay func260 rfl ⟨_,gB,⟨rfl,AL,h8⟩,tJ⟩
   refine aL ?_;refine au ?_;rw[if_neg h4]at gB;by_cases h5:op=5
   ·refine ye ?_;rw[if_pos h5]at gB;refine au ?_;refine ai _ (bP _ _ _ _ rfl (by rfl) _) ?_;refine au ?_;exact ay func260 rfl ⟨_,gB,⟨rfl,AL,h8⟩,tJ⟩
   refine aL ?_;refine au ?_;rw[if_neg h5]at gB;by_cases Sk:op=6
   ·refine ye ?_;rw[if_pos Sk]at gB;refine au ?_;refine ai _ (bP _ _ _ _ rfl (by rfl) _) ?_;refine au ?_;exact ay func260 rfl ⟨_,gB,⟨rfl,AL,h8⟩,tJ⟩
   refine aL ?_;refine au ?_;rw[if_neg Sk]at gB;by_cases h7:op=7
   ·refine ye ?_;rw[if_pos h7]at gB;refine au ?_;refine ai _ (bP _ _ _ _ rfl (by rfl) _) ?_;refine oC (UJ _ _) ?_;rintro r w'⟨rfl,rfl⟩;refine au ?_;exact ay func260 rfl ⟨_,gB,⟨rfl,AL,h8⟩,tJ⟩
   refine aL ?_;refine au ?_;rw[if_neg h7]at gB;refine ai _ (bP _ _ _ _ rfl (by rfl) _) ?_;refine oC (UJ _ _) ?_;rintro r w'⟨rfl,rfl⟩;refine au ?_;exact ay func260 rfl ⟨_,gB,⟨rfl,AL,h8⟩,tJ⟩
def Ce(C:Kx)(op:Int)(e f:ET)(s:Es):Ex (Int×Int×Es):=
 dS (if dw op then oy C.vs C.fuel e s else .ok (0,s)) fun a=>dS (if cY op then oy C.vs C.fuel f a.2 else .ok (0,a.2)) fun c=>.ok (a.1,c.1,c.2)
def CT(C:Kx)(x:Int)(b:List ST)(s:Es):Ex (Bool×Es):=
 if x=0 then .ok (false,s)else dS (pG C.vs C.inp C.fuel b s) fun s3=>dS (tick C.fuel s3) fun s4=>.ok (true,s4)
def Ix(C:Kx)(op v x y:Int)(b o:List ST)(s:Es):Ex (Bool×Es):=
 if op=5 then CT C x b s
 else if op=6 then dS (CT C x b s) fun c=>if c.1=true then .ok (false,c.2)else dS (pG C.vs C.inp C.fuel o c.2) fun s3=>.ok (false,s3)
 else dS (qY C.vs C.inp op v x y s) fun s3=>.ok (false,s3)
def CU(C:Kx):ST→Es→Ex (Bool×Es)
 |.mk op v e f b o,s=>dS (Ce C op e f s) fun a=>dS (tick C.fuel a.2.2) fun s2=>Ix C op v a.1 a.2.1 b o s2
def AM(C:Kx)(t:ST):Nat→Es→Ex Es
 |0,s=>.error (13,s)
 |g+1,s=>dS (CU C t s) fun a=>if a.1=true then AM C t g a.2 else .ok a.2
theorem Ya(C:Kx){op:Int}(e f:ET)(s:Es)(h1:dw op=true)(h2:cY op=false):Ce C op e f s=dS (oy C.vs C.fuel e s) fun a=>.ok (a.1,0,a.2):=by
 unfold Ce;rw[h1,h2];simp only[if_true,Bool.false_eq_true,if_false];cases oy C.vs C.fuel e s<;>rfl
theorem WQ(C:Kx){op v:Int}{e f:ET}{b o:List ST}(h:op=5):∀(g:Nat) (s:Es),D6 C.fuel (oy C.vs C.fuel e) (pG C.vs C.inp C.fuel b) g s=AM C (.mk op v e f b o) g s
 |0,s=>rfl
 | g+1,s=>by
  simp only[D6,AM,CU];rw[Ya C e f s (by rw[h];rfl) (by rw[h];rfl)];simp only[tR];congr 1;funext a;show _=dS (tick C.fuel a.2) _;congr 1;funext s2;unfold Ix CT;rw[if_pos h];by_cases h0:a.1=0
  ·rw[if_pos h0,if_pos h0];rfl
  ·rw[if_neg h0,if_neg h0,tR];congr 1;funext s3;rw[tR];congr 1;funext s4;exact WQ C h g s4
theorem aii(C:Kx){op v:Int}{e f:ET}{b o:List ST}(h:¬op=5)(s:Es):CU C (.mk op v e f b o) s=dS (CR C.vs C.inp C.fuel (.mk op v e f b o) s) fun s1=>.ok (false,s1):=by
 simp only[CU,CR];rw[if_neg h];by_cases h6:op=6
 ·rw[Ya C e f s (by rw[h6];rfl) (by rw[h6];rfl),if_pos h6];simp only[tR];congr 1;funext a;show dS (tick C.fuel a.2) _=_;congr 1;funext s2;unfold Ix CT;rw[if_neg h,if_pos h6];by_cases h0:a.1=0
  ·rw[if_pos h0,if_pos h0];rfl
  ·rw[if_neg h0,if_neg h0,tR,tR];congr 1;funext s3;rw[tR];rfl
 ·rw[if_neg h6];unfold Ce;simp only[tR];congr 1;funext a;congr 1;funext c;show dS (tick C.fuel c.2) _=_;congr 1;funext s2;unfold Ix;rw[if_neg h,if_neg h6]
theorem aj7(C:Kx)(t:ST)(s:Es):CR C.vs C.inp C.fuel t s=AM C t (C.fuel+1) s:=by
 obtain⟨op,v,e,f,b,o⟩:=t;by_cases h:op=5
 ·rw[←WQ C h];simp only[CR];rw[if_pos h]
 ·simp only[AM];rw[aii C h,tR];exact Pe _
section
variable{C:Kx}{w w1 w2:World}{u o:Value}{s:Es}
theorem Ru.print(hC:C.Ok)(h:Ru C w u o s)(hn:s.out.length+1≤s.n){o':Value}{n:Int}(ah:ae (aW o) w w1)(bN:bl w1 C.w0.heap.size o' (s.out++[n]))(fW:∀x∈aW o',x∈aW o∨w.heap.size≤x)(hk:ae [C.b] w1 w2)(hb:ak w2 C.b (AJ C s.n u o') rB):Ru C w2 u o' {s with out:=s.out++[n]}∧Rf w w2:=by
 have oR:=ah.af h.bk fun hm=>h.ro.ne h.bk BO C.b hm (by simp);have aaj:=h.rc.keep ah fun x hx hm=>h.ap x hx hm;refine⟨⟨(h.kp.trans ah fun x hx=>.inr (h.ro.lt x hx).1).aO hk hC.ge,hb,h.un,aaj.keep hk (aaj.ne oR BO),bN.keep hk (bN.ne oR BO),fun x hx hm=>?_,h.cl,h.le,by show(s.out++[n]).length≤s.n;simp;omega⟩,?_⟩
 ·rcases fW x hm with h2|h2
  ·exact h.ap x hx h2
  ·have:=(h.rc.lt x hx).2;omega
 ·refine(Rf.of ah fun k hm=>?_).tr (Rf.of hk fun k hm=>⟨AJ C s.n u o,rB,by rw[List.mem_singleton.1 hm];exact oR,.inl rfl⟩);obtain⟨L,hL⟩:=h.ro.af k hm;exact⟨L,dA,hL,.inr rfl⟩
theorem GF:143≠rB:=by decide
theorem GG:143≠dA:=by decide
theorem afc(hC:C.Ok){op v:Int}{e f:ET}{b' o':List ST}{cs:List Value}(sx:It C.vs.length (.mk op v e f b' o'))(hS:iO C.F C.w0 cs (.mk op v e f b' o'))(h:Rt C w s):AK C 233 [.pointer (some ⟨C.b,0,none⟩),.agg cs.toArray] w (Ce C op e f s) fun a r w'=>r=.tuple #[.int .i64 a.1,.int .i64 a.2.1]∧s.n≤a.2.2.n∧Rt C w' a.2.2:=by
 obtain⟨_,_,_,Sl,Sm,_,_⟩:=sx;obtain⟨ce,cf,bv,ov,rfl,he,hf,hb,ho⟩:=hS.inv;obtain⟨ba,bc,rfl⟩:=hb.form;obtain⟨oa,oc,rfl⟩:=ho.form;obtain⟨e0,e1,e2,e3,rfl⟩:=jl he.length;obtain⟨f0,f1,f2,f3,rfl⟩:=jl hf.length;obtain⟨bq,gV⟩:∃bq,bq=Ce C op e f s:=⟨_,rfl⟩;rw[←gV];unfold Ce at gV;refine mO 32 func233 ?_;refine au ?_;refine aj (bY [.int .i64 op,.int .i64 v,e0,e1,e2,e3,f0,f1,f2,f3,.slice ba b'.length bc,.slice oa o'.length oc] rfl ?_);intro w1 x3 fX bt ah cm;have h1:=h.aA ah;refine lB cm ?_;refine oC (Gf op w1) ?_;rintro r L4⟨rfl,cC⟩;rw[cC];unfold B4;obtain⟨qe,yU⟩:∃q,q=dw op:=⟨_,rfl⟩;obtain⟨qf,hqf⟩:∃q,q=cY op:=⟨_,rfl⟩;rw[←yU]at gV Sl⊢;rw[←hqf]at gV Sm⊢;refine aP ?_;refine bT ?_;refine fx (fun σ' w'=>∃(x:Int) (s2:Es),bq=dS (if qf then oy C.vs C.fuel f s2 else .ok (0,s2)) (fun c=>.ok (x,c.1,c.2))∧Rt C w' s2∧s.n≤s2.n∧Rf w w'∧ak w' x3 [.int .i64 op,.int .i64 v,e0,e1,e2,e3,f0,f1,f2,f3,.slice ba b'.length bc,.slice oa o'.length oc] 143∧Sub [(0,.pointer (some ⟨C.b,0,none⟩)),(3,.pointer (some ⟨x3,0,none⟩)),(4,.int .i64 x),(5,.int .i64 0),(7,.bool qf)] σ') ?_ ?_
 rotate_left
 ·intro fin;refine bT ?_;refine cH ?_;cases qe with
  |false=>
   refine aP ?_;exact fin _ _ ⟨0,s,by rw[gV];rfl,h1,Nat.le_refl _,Rf.bG ah,cm,rfl,rfl,rfl,rfl,rfl,trivial⟩
  |true=>
   rw[if_pos rfl]at gV;refine aP ?_;refine cH ?_;refine aP ?_;refine ai (.agg #[e0,e1,e2,e3]) (bF [e0,e1,e2,e3] rfl (cm.range (by rfl))) ?_;refine dW func233 rfl rfl (dF (fst:=[]) (cap:=[]) rfl rfl rfl rfl (by decide+kernel) (qJ (VH hC (fO e+1) e (by omega) (Sl rfl) he h1) gV (Rf.bG ah) ?_));rintro⟨y,s2⟩ r w2 bR⟨rfl,iZ,h2⟩ Mz pU;refine aP ?_;exact fin _ _ ⟨y,s2,bR,h2,iZ,pU,Mz.af cm GF GG,rfl,rfl,rfl,rfl,rfl,trivial⟩
 ·rintro σ' w2⟨x,s2,bR,h2,iZ,pU,gZ,bH⟩;refine bj bH ?_;refine bT ?_;refine fx (fun σ' w'=>∃(y:Int) (s3:Es),bq=.ok (x,y,s3)∧Rt C w' s3∧s.n≤s3.n∧Rf w w'∧Sub [(4,.int .i64 x),(5,.int .i64 y)] σ') ?_ ?_
  rotate_left
  ·intro fin;refine bT ?_;refine cH ?_;cases qf with
   |false=>
    refine aP ?_;exact fin _ _ ⟨0,s2,by rw[bR];rfl,h2,iZ,pU,rfl,rfl,trivial⟩
   |true=>
    rw[if_pos rfl]at bR;refine aP ?_;refine cH ?_;refine aP ?_;refine ai (.agg #[f0,f1,f2,f3]) (bF [f0,f1,f2,f3] rfl (gZ.range (by rfl))) ?_;refine dW func233 rfl rfl (dF (fst:=[]) (cap:=[]) rfl rfl rfl rfl (by decide+kernel) (qJ (VH hC (fO f+1) f (by omega) (Sm rfl) hf h2) bR pU ?_));rintro⟨y,s3⟩ r w3 cF⟨rfl,cD,h3⟩ hQ3 mI;refine aP ?_;exact fin _ _ ⟨y,s3,cF,h3,Nat.le_trans iZ cD,mI,rfl,rfl,trivial⟩
  ·rintro σ' w3⟨y,s3,cF,h3,cD,mI,bH⟩;refine bj bH ?_;refine au ?_;exact nH func233 rfl ⟨(x,y,s3),cF,⟨rfl,cD,h3⟩,mI⟩
end
def MA(C:Kx)(z:Nat):Prop:=∀(l:List ST),cu l<z→Aa C.vs.length l→∀{w:World} {lv:Value} {s:Es},eM C.F C.w0 lv l→Rt C w s→
  AK C 177 [.pointer (some ⟨C.b,0,none⟩),lv] w (pG C.vs C.inp C.fuel l s) fun s' r w'=>r=.tuple #[]∧s.n≤s'.n∧Rt C w' s'
def AgI(C:Kx)(z:Nat):Prop:=∀(t:ST),ll t<z→It C.vs.length t→∀{w:World} {cs:List Value} {s:Es},iO C.F C.w0 cs t→Rt C w s→
  AK C 206 [.pointer (some ⟨C.b,0,none⟩),.agg cs.toArray] w (CU C t s) fun a r w'=>r=.bool a.1∧s.n≤a.2.n∧(a.1=true→s.n<a.2.n)∧Rt C w' a.2
section
variable{C:Kx}{w:World}{s:Es}
theorem T7(hC:C.Ok){z:Nat}(hS:MA C z)(x:Int){l:List ST}(hz:cu l<z)(sx:Aa C.vs.length l){lv:Value}(hl:eM C.F C.w0 lv l)(h:Rt C w s):AK C 236 [.pointer (some ⟨C.b,0,none⟩),.int .i64 x,lv] w (CT C x l s) fun a r w'=>r=.bool a.1∧s.n≤a.2.n∧(a.1=true→s.n<a.2.n)∧Rt C w' a.2:=by
 obtain⟨la,lc,rfl⟩:=hl.form;obtain⟨bq,gV⟩:∃bq,bq=CT C x l s:=⟨_,rfl⟩;rw[←gV];unfold CT at gV;refine mO 16 func236 ?_;refine au ?_;by_cases h0:x=0
 ·refine ye ?_;rw[if_pos h0]at gV;refine au ?_;exact ay func236 rfl ⟨_,gV,⟨rfl,Nat.le_refl _,fun h=>(by cases h),h⟩,Rf.refl _⟩
 ·refine aL ?_;rw[if_neg h0]at gV;refine au ?_;refine dW func236 rfl rfl (dF (fst:=[]) (cap:=[]) rfl rfl rfl rfl (by decide+kernel) (qJ (hS l hz sx hl h) gV (Rf.refl _) ?_));rintro s1 r w1 g_⟨rfl,iy,h1⟩ hQ1 hR1;refine au ?_;refine dW func236 rfl rfl (dF (fst:=[]) (cap:=[]) rfl rfl rfl rfl (by decide+kernel) (qJ (Jh hC h1) g_ hR1 ?_));rintro s2 r w2 bR⟨rfl,cE,h2⟩ Mz pU;have iZ:s.n<s2.n:=by rw[cE];show s.n<s1.n+1;omega
  refine au ?_;exact ay func236 rfl ⟨_,bR,⟨rfl,Nat.le_of_lt iZ,fun _=>iZ,h2⟩,pU⟩
theorem afd(hC:C.Ok){z:Nat}(hS:MA C z):AgI C (z+1):=by
 intro t ht sx w cs s hSt h;obtain⟨op,v,e,f,b',o'⟩:=t;have anU:=hSt;have anV:=sx;obtain⟨gx,Ap,E9,Sl,Sm,AN,tK⟩:=sx;obtain⟨ce,cf,bv,ov,rfl,he,hf,hb,ho⟩:=hSt.inv;obtain⟨ba,bc,rfl⟩:=hb.form;obtain⟨oa,oc,rfl⟩:=ho.form;obtain⟨e0,e1,e2,e3,rfl⟩:=jl he.length;obtain⟨f0,f1,f2,f3,rfl⟩:=jl hf.length;simp only[ll]at ht;obtain⟨bq,gV⟩:∃bq,bq=CU C (.mk op v e f b' o') s:=⟨_,rfl⟩;rw[←gV];simp only[CU]at gV;refine mO 76 func206 ?_;refine au ?_;refine aj (bY [.int .i64 op,.int .i64 v,e0,e1,e2,e3,f0,f1,f2,f3,.slice ba b'.length bc,.slice oa o'.length oc] rfl ?_);intro w1 x3 fX bt ah cm;have h1:=h.aA ah;refine au ?_;refine ai (.agg #[.int .i64 op,.int .i64 v,e0,e1,e2,e3,f0,f1,f2,f3,.slice ba b'.length bc,.slice oa o'.length oc]) (bF [.int .i64 op,.int .i64 v,e0,e1,e2,e3,f0,f1,f2,f3,.slice ba b'.length bc,.slice oa o'.length oc] rfl (cm.range (by rfl))) ?_;refine dW func206 rfl rfl (dF (fst:=[]) (cap:=[]) rfl rfl rfl rfl (by decide+kernel) (qJ (afc hC anV anU h1) gV (Rf.bG ah) ?_));rintro⟨x,y,s2⟩ r w2 bR⟨rfl,iZ,h2⟩ Mz pU;have gZ:=Mz.af cm GF GG
 dsimp only at bR iZ h2
 have arP:s2.out.length≤s2.n:=let⟨_,_,h⟩:=h2;h.ol;refine au ?_;refine dW func206 rfl rfl (dF (fst:=[]) (cap:=[]) rfl rfl rfl rfl (by decide+kernel) (qJ (Jh hC h2) bR pU ?_));rintro s3 r w3 cF⟨rfl,QN,h3⟩ hQ3 mI;have lK:=hQ3.af gZ GF GG;have cD:s.n≤s3.n:=by rw[QN];show s.n≤s2.n+1;omega
 have anW:s3.out.length+1≤s3.n:=by rw[QN];show s2.out.length+1≤s2.n+1;omega
 clear QN bR gV;unfold Ix at cF;refine lB lK ?_;refine au ?_;by_cases c1:op=1
 ·obtain⟨kY,du⟩:=E9 (by rw[c1];rfl);have bw:=size_pos hC.sz kY du;refine ye ?_;rw[if_neg (by omega),if_neg (by omega)]at cF;unfold qY at cF;rw[if_pos c1]at cF;refine lB lK ?_;obtain⟨u,o,h3⟩:=h3;refine dW func206 rfl rfl (dF (fst:=[]) (cap:=[]) rfl rfl rfl rfl (by decide+kernel) ((FW hC h3 v 0 kY du).mono ?_ ?_))
  rotate_left
  ·rintro x w'⟨ku,_⟩;exfalso;omega
  rintro r w4⟨_,jv,⟨g,cap,cL,rfl⟩,ax⟩;have h4:=h3.aA ax;rw[Int.add_zero]at jv⊢;obtain⟨cur,jK,ek,j9⟩:=h4.set jv cL;refine au ?_;refine aj (aH [.int .i64 x] rfl J6 jK (by simp;omega) (eK _) ?_);intro w5 iV aE cr;obtain⟨h5,jV⟩:=j9 aE cr;refine au ?_;exact ay func206 rfl ⟨_,cF,⟨rfl,cD,fun h=>(by cases h),u,o,h5⟩,(mI.tr (Rf.bG ax)).tr jV⟩
 refine aL ?_;refine au ?_;by_cases c2:op=2
 ·obtain⟨kY,du⟩:=E9 (by rw[c2];rfl);refine ye ?_;rw[if_neg (by omega),if_neg (by omega)]at cF;unfold qY at cF;rw[if_neg c1,if_pos c2]at cF;refine lB lK ?_;refine au ?_;obtain⟨u,o,h3⟩:=h3;refine dW func206 rfl rfl (dF (fst:=[]) (cap:=[]) rfl rfl rfl rfl (by decide+kernel) ((FW hC h3 v x kY du).mono ?_ ?_))
  rotate_left
  ·rintro x' w'⟨ku,rfl,ax⟩;rw[if_neg ku]at cF;exact⟨_,cF,rfl,⟨u,o,h3.aA ax⟩,mI.tr (Rf.bG ax)⟩
  rintro r w4⟨Eo,jv,⟨g,cap,cL,rfl⟩,ax⟩;rw[if_pos Eo]at cF;have h4:=h3.aA ax;obtain⟨cur,jK,ek,j9⟩:=h4.set jv cL;refine au ?_;refine aj (aH [.int .i64 y] rfl J6 jK (by simp;omega) (eK _) ?_);intro w5 iV aE cr;obtain⟨h5,jV⟩:=j9 aE cr;refine au ?_;exact ay func206 rfl ⟨_,cF,⟨rfl,cD,fun h=>(by cases h),u,o,h5⟩,(mI.tr (Rf.bG ax)).tr jV⟩
 refine aL ?_;refine au ?_;by_cases c3:op=3
 ·refine ye ?_;rw[if_neg (by omega),if_neg (by omega)]at cF;unfold qY at cF;rw[if_neg c1,if_neg c2,if_pos c3]at cF;obtain⟨u,o,h3⟩:=h3;have hfu:=hC.fu;have arQ:=h3.le;obtain⟨oa',oc',rfl⟩:=h3.ro.form;refine lB h3.bk ?_;refine au ?_;refine aj (eE dA [.int .i64 x] rfl rfl (F3 x) ?_);intro w4 g hg cz ax a_;have h4:=h3.aA ax;refine aj (ja C.w0.heap.size dA 1 8 (dZ s3.out) [.int .i64 x] rfl rfl rfl yj h4.ro (a_.range rfl) rfl (nL rfl) (by decide) (by unfold maxLen;omega) (by omega) h4.kp.size ?_);intro g2 cap w5 qh mQ;have zM:bl w5 C.w0.heap.size (.slice (some ⟨g2,0,none⟩) (s3.out.length+1) cap) (s3.out++[x]):=by
   have e1:(s3.out++[x]).length=s3.out.length+1:=by simp
   have e2:dZ (s3.out++[x])=dZ s3.out++[.int .i64 x]:=by rw[Ge];rfl
   unfold bl;rw[e1,e2];exact qh
  have aE:ae (aW (.slice oa' s3.out.length oc')) w4 w5:=by
   rcases mQ with⟨h3,_,h4⟩|⟨_,h4,_⟩
   ·rw[aW,h3];exact h4
   ·exact h4.bG
  have fW:∀x∈aW (.slice (some ⟨g2,0,none⟩) (s3.out.length+1) cap),x∈aW (.slice oa' s3.out.length oc')∨w4.heap.size≤x:=fun x hx=>by
   have hx:x=g2:=by simpa[aW,Value.ownBlock]using hx
   subst hx;rcases mQ with⟨h3,_,_⟩|⟨h3,_,_⟩
   ·exact .inl (iM.2 h3)
   ·exact .inr (by omega)
  refine au ?_;refine aj (aH [.slice (some ⟨g2,0,none⟩) (s3.out.length+1) cap] rfl X8 (aE.af h4.bk fun hm=>h4.ro.ne h4.bk BO C.b hm (by simp)) (by simp[AJ]) (nL rfl) ?_);intro w6 iI aD dM;obtain⟨h6,vM⟩:=h4.print hC anW aE zM fW aD dM;refine au ?_;exact ay func206 rfl ⟨_,cF,⟨rfl,cD,fun h=>(by cases h),u,_,h6⟩,(mI.tr (Rf.bG ax)).tr vM⟩
 refine aL ?_;refine au ?_;by_cases c4:op=4
 ·obtain⟨kY,du⟩:=E9 (by rw[c4];rfl);have bw:=size_pos hC.sz kY du;refine ye ?_;rw[if_neg (by omega),if_neg (by omega)]at cF;have jw:bq=dS (BP C.inp s3) fun a=>.ok (false,{a.2 with cells:=s3.cells.set (cellOf C.vs v).toNat a.1}):=by
   rw[cF];unfold qY BP;rw[if_neg c1,if_neg c2,if_neg c3,if_pos c4];split<;>rfl
  refine lB lK ?_;obtain⟨u,o,h3⟩:=h3;refine dW func206 rfl rfl (dF (fst:=[]) (cap:=[]) rfl rfl rfl rfl (by decide+kernel) ((FW hC h3 v 0 kY du).mono ?_ ?_))
  rotate_left
  ·rintro x w'⟨ku,_⟩;exfalso;omega
  rintro r w4⟨_,jv,⟨g,cap,cL,rfl⟩,ax⟩;rw[Int.add_zero]at jv⊢;refine au ?_;refine dW func206 rfl rfl (dF (fst:=[]) (cap:=[]) rfl rfl rfl rfl (by decide+kernel) (qJ (agG hC ⟨u,o,h3.aA ax⟩) jw (mI.tr (Rf.bG ax)) ?_));rintro⟨y',s5⟩ r w5 E_⟨rfl,iV,u5,o5,h5⟩ hQ5 jV
  dsimp only at iV E_ h5
  subst iV;obtain⟨cur,jK,ek,j9⟩:=h5.set (j:=(cellOf C.vs v).toNat) jv cL;refine au ?_;refine aj (aH [.int .i64 y'] rfl J6 jK (by simp;omega) (eK _) ?_);intro w6 iI aD dM;obtain⟨h6,vM⟩:=j9 aD dM;refine au ?_;exact ay func206 rfl ⟨_,E_,⟨rfl,cD,fun h=>(by cases h),u5,o5,h6⟩,jV.tr vM⟩
 refine aL ?_;refine au ?_;by_cases c5:op=5
 ·refine ye ?_;rw[if_pos c5]at cF;refine lB lK ?_;refine dW func206 rfl rfl (dF (fst:=[]) (cap:=[]) rfl rfl rfl rfl (by decide+kernel) (qJ (T7 hC hS x (by omega) AN hb h3) (cF.trans (Pe _)) mI ?_));rintro⟨q,s4⟩ r w4 jw⟨rfl,fG,aak,h4⟩ hQ4 o4;refine au ?_;exact ay func206 rfl ⟨_,jw,⟨rfl,Nat.le_trans cD fG,fun h=>Nat.lt_of_le_of_lt cD (aak h),h4⟩,o4⟩
 refine aL ?_;refine au ?_;rw[if_neg c5]at cF;by_cases c6:op=6
 ·refine ye ?_;rw[if_pos c6]at cF;refine lB lK ?_;refine dW func206 rfl rfl (dF (fst:=[]) (cap:=[]) rfl rfl rfl rfl (by decide+kernel) (qJ (T7 hC hS x (by omega) AN hb h3) cF mI ?_));rintro⟨q,s4⟩ r w4 jw⟨rfl,fG,aak,h4⟩ hQ4 o4
  dsimp only at jw fG h4
  have fk:=hQ4.af lK GF GG;cases q with
  |true=>
   rw[if_pos rfl]at jw;refine au ?_;exact ay func206 rfl ⟨_,jw,⟨rfl,Nat.le_trans cD fG,fun h=>(by cases h),h4⟩,o4⟩
  |false=>
   rw[if_neg (by decide)]at jw;refine lB fk ?_;refine dW func206 rfl rfl (dF (fst:=[]) (cap:=[]) rfl rfl rfl rfl (by decide+kernel) (qJ (hS o' (by omega) tK ho h4) jw o4 ?_));rintro s5 r w5 E_⟨rfl,rl,h5⟩ hQ5 jV;refine au ?_;exact ay func206 rfl ⟨_,E_,⟨rfl,Nat.le_trans cD (Nat.le_trans fG rl),fun h=>(by cases h),h5⟩,jV⟩
 refine aL ?_;refine au ?_;rw[if_neg c6]at cF;unfold qY at cF;rw[if_neg c1,if_neg c2,if_neg c3,if_neg c4]at cF;exact ay func206 rfl ⟨_,cF,⟨rfl,cD,fun h=>(by cases h),h3⟩,mI⟩
end
def anX:List Value:=ep 0 0 jz jz (.slice none 0 0) (.slice none 0 0)
theorem aj8:((prog.info? 143).bind (·.zero)).map (·.cells)=some anX.toArray:=by kernel_rfl
theorem aj9:dH prog 143 12=true:=by kernel_rfl
theorem afe{C:Kx}(hC:C.Ok){z:Nat}(hz0:z≤100000)(hA:AgI C z):MA C z:=by
 intro l hz sx w lv s hl h;obtain⟨la,lc,rfl⟩:=hl.form;obtain⟨bq,gV⟩:∃bq,bq=pG C.vs C.inp C.fuel (l.drop 0) s:=⟨_,rfl⟩;rw[List.drop_zero]at gV;rw[←gV];have hlen:=DI l;refine mO 16 func177 ?_;refine au ?_;refine cP (fun m σ w'=>∃(i:Nat) (s':Es),i≤l.length∧m=l.length-i∧σ=[(0,.pointer (some ⟨C.b,0,none⟩)),(6,.slice la l.length lc),(7,.int .i64 (l.length:Nat)),(8,.int .i64 (i:Nat))]∧bq=pG C.vs C.inp C.fuel (l.drop i) s'∧Rt C w' s'∧s.n≤s'.n∧Rf w w')
  l.length _ ?_ ⟨0,s,by omega,by omega,rfl,by rw[List.drop_zero];exact gV,h,Nat.le_refl _,Rf.refl _⟩ ?_
 ·exact⟨rfl,rfl,rfl,rfl,trivial⟩
 rintro m σ w6 ih⟨i,s',hi,rfl,rfl,xJ,h6,uv,vM⟩;refine au ?_;by_cases az:i<l.length
 ·refine ye ?_;have j_:l[i]?=some l[i]:=List.getElem?_eq_getElem az;obtain⟨b1,q1,c1,ci,tC,og,fh,eO⟩:=hl.at j_;cases tC;have GX:=OF j_;have nt:bq=dS (AM C l[i] (C.fuel+1) s') fun s1=>pG C.vs C.inp C.fuel (l.drop (i+1)) s1:=by
   rw[xJ,List.drop_eq_getElem_cons az,←aj7];rfl
  refine au ?_;refine ai _ (bJ i rfl az w6) ?_;refine ai (.agg ci.toArray) (h_ ci hT rfl rfl (by rw[eO.length];rfl) (ft fh h6.kp (hC.hF _ og) (by simp))) ?_;refine aj (bO _ rfl aj8 ?_);intro w7 x7 sd jr aN eC;refine aj (aH ci rfl (by rw[eO.length];exact aj9) eC (by rw[eO.length];decide) eO.one ?_);intro w8 jP aS cB;rw[bs (by rw[eO.length];rfl)]at cB;have eP:ae [] w6 w8:=aN.aO aS (by omega);refine au ?_;refine cP (fun m σ w'=>∃(s9:Es),C.fuel<m+s9.n∧σ=[(0,.pointer (some ⟨C.b,0,none⟩)),(5,.pointer (some ⟨x7,0,none⟩)),(6,.slice (some ⟨b1,q1,none⟩) l.length lc),(7,.int .i64 (l.length:Nat)),(8,.int .i64 (i:Nat))]∧
   bq=dS (AM C l[i] m s9) (fun s1=>pG C.vs C.inp C.fuel (l.drop (i+1)) s1)∧Rt C w' s9∧s.n≤s9.n∧Rf w w'∧ak w' x7 ci 143)
   (C.fuel+1) _ ?_ ⟨s',by omega,rfl,nt,h6.aA eP,uv,vM.tr (Rf.bG eP),cB⟩ ?_
  ·exact⟨rfl,rfl,rfl,rfl,rfl,trivial⟩
  rintro m σ w9 nj⟨s9,RR,rfl,gB,h9,hn9,tH,sy⟩;have arR:=h9.le;obtain⟨g,rfl⟩:∃g,m=g+1:=⟨m-1,by omega⟩;simp only[AM]at gB;rw[tR]at gB;refine au ?_;refine ai (.agg ci.toArray) (h_ ci hT rfl rfl (by rw[eO.length];rfl) (sy.range (by simp))) ?_;refine dW func177 rfl rfl (dF (fst:=[]) (cap:=[]) rfl rfl rfl rfl (by decide+kernel) (qJ (hA l[i] (by omega) (X_ sx j_) eO h9) gB tH ?_));rintro⟨q,s10⟩ r bM rZ⟨rfl,anY,PS,me⟩ anZ Cc
  dsimp only at rZ anY PS me
  have QM:=anZ.af sy GF GG;cases q with
  |true=>
   rw[if_pos rfl]at rZ;have PS:=PS rfl;refine au ?_;refine bj ?_ (nj g _ bM (by omega) ⟨s10,by omega,rfl,rZ,me,by omega,Cc,QM⟩);exact⟨rfl,rfl,rfl,rfl,rfl,trivial⟩
  |false=>
   rw[if_neg (by decide)]at rZ;refine nM ((i+1:Nat):Int) ?_;refine au ?_;refine bj ?_ (ih (l.length-(i+1)) [(0,.pointer (some ⟨C.b,0,none⟩)),(6,.slice (some ⟨b1,q1,none⟩) l.length lc),(7,.int .i64 (l.length:Nat)),(8,.int .i64 ((i+1:Nat):Int))] bM (by omega) ⟨i+1,s10,by omega,rfl,rfl,rZ,me,by omega,Cc⟩);exact⟨rfl,rfl,rfl,rfl,trivial⟩
 ·refine aL ?_;rw[List.drop_of_length_le (by omega)]at xJ;refine au ?_;exact bK func177 rfl ⟨s',xJ,⟨rfl,uv,h6⟩,vM⟩
theorem UK{C:Kx}(hC:C.Ok):∀(z:Nat),z≤100000→MA C z
 |0,_=>fun l hz=>by omega
 |z+1,h=>afe hC h (afd hC (UK hC z (by omega)))
theorem Yb{w:World}{x2:Nat}(hb:ak w x2 [.int .i64 0] 3)(c:Nat):CallsD prog 176 [Value.pointer (some ⟨x2,0,none⟩)].toArray (.panicking (Cq (CS c))) w fun en u' w'=>en=.returned (.tuple #[])∧u'=.panicking [{v:=CS c,recovered:=true}]∧ak w' x2 [.int .i64 (c:Nat)] 3∧ae [x2] w w':=by
 refine Jq 8 func176 rfl rfl (by simp) ?_;refine JX ?_;refine TU (CS c) rfl rfl rfl (fun a ha=>rfl) ?_;refine au ?_;refine ai _ (FD _ _ (by decide+kernel) rfl rfl w) ?_;refine au ?_;refine ai _ (UL (by decide+kernel) rfl rfl w) ?_;refine ai _ (Nq 0 [.int .i64 (c:Nat)] rfl rfl (by decide+kernel) rfl w) ?_;refine aj (aH [.int .i64 (c:Nat)] rfl ON hb (by simp) (eK _) ?_);intro w1 bt ah aM;rw[bs (by rfl)]at aM;refine au ?_;exact JW func176 rfl (.inr (.inl ⟨rfl,rfl⟩)) ⟨rfl,rfl,aM,ah⟩
theorem agH(w:World)(x2:Nat):CallsD prog 176 [Value.pointer (some ⟨x2,0,none⟩)].toArray .returning w fun en u' w'=>en=.returned (.tuple #[])∧u'=.returning∧w'=w:=by
 refine Jq 8 func176 rfl rfl (by simp) ?_;refine JX ?_;refine Ve rfl rfl rfl (fun a ha=>rfl) ?_;refine au ?_;refine ai _ (FG (by decide+kernel) rfl rfl w) ?_;refine au ?_;exact JW func176 rfl (.inr (.inl ⟨rfl,rfl⟩)) ⟨rfl,rfl,rfl⟩
end E
end Go.Proofs.YtoigoojdbpbhoagGreatDoor
