/- Texts BeA BeB BeC CmG TreeB CoB CoM CoC CoC2 CoD CoE CoF CoG RfA CmC BeS. -/
import Derived.Test.YtoigoojdbpbhoagGreatDoorJ02
namespace Go.Proofs.YtoigoojdbpbhoagGreatDoor
set_option maxRecDepth 20000
set_option maxHeartbeats 4000000
namespace E
open Go.Proofs.Tryz
abbrev xh:Nat:=122
abbrev LZ:Nat:=117
abbrev dA:Nat:=2
def dZ(l:List Int):List Value:=l.map fun k=>Value.int .i64 k
theorem Di(l:List Int):(dZ l).length=l.length:=by simp[dZ]
theorem XE(l:List Int):∀u∈dZ l,u.oneCell'=true:=by
 intro u hu;simp only[dZ,List.mem_map]at hu;obtain⟨x,_,rfl⟩:=hu;rfl
theorem Ge(a b:List Int):dZ (a++b)=dZ a++dZ b:=by simp[dZ]
theorem Kg{l:List Int}{i:Nat}{x:Int}(h:l[i]?=some x):(dZ l)[i]?=some (.int .i64 x):=by simp[dZ,h]
abbrev bl(w:World)(B:Nat)(v:Value)(l:List Int):Prop:=Own w B dA 1 v l.length (dZ l)
def aW(v:Value):List Nat:=v.ownBlock.toList
theorem iM{v:Value}{k:Nat}:k∈aW v↔v.ownBlock=some k:=by simp[aW]
def jI(u v:Value):Prop:=∀k∈aW u,k∉aW v
section
variable{w w':World}{B:Nat}{v:Value}{l:List Int}
theorem bl.nil(w:World)(B:Nat):bl w B (.slice none 0 0) []:=Own.nil w B dA 1
theorem bl.keep{fp:List Nat}(h:bl w B v l)(hk:ae fp w w')(hn:∀k∈aW v,k∉fp):bl w' B v l:=Own.keep h hk fun k hv=>hn k (iM.2 hv)
theorem bl.lt(h:bl w B v l):∀k∈aW v,B≤k∧k<w.heap.size:=fun k hk=>Own.lt h k (iM.1 hk)
theorem bl.af(h:bl w B v l):∀k∈aW v,∃L,ak w k L dA:=fun k hk=>by
 have hk:=iM.1 hk;rcases h.2 with⟨rfl,_⟩|⟨g,cap,cur,rfl,_,hg,_⟩
 ·simp[Value.ownBlock]at hk
 ·simp only[Value.ownBlock,Option.some.injEq]at hk;subst hk;exact⟨cur,hg⟩
theorem bl.ne(h:bl w B v l){b:Nat}{L:List Value}{e:TypeId}(hb:ak w b L e)(he:e≠dA):∀k∈aW v,k∉[b]:=fun k hk hm=>by
 obtain⟨L',mB⟩:=h.af k hk;rw[List.mem_singleton.1 hm]at mB;exact ak.ne hb mB he rfl
theorem bl.form(h:bl w B v l):∃a cap,v=.slice a l.length cap:=Own.form h
theorem bl.cap{a:Option Addr}{n cap:Nat}(h:bl w B (.slice a n cap) l):l.length≤cap:=by
 rcases h.2 with⟨hv,h0⟩|⟨g,c,cur,hv,_,_,hc,_⟩
 ·omega
 ·cases hv;exact hc
theorem bl.at(h:bl w B v l){i:Nat}{x:Int}(hx:l[i]?=some x):∃g cap,v=.slice (some ⟨g,0,none⟩) l.length cap∧w.cell? ⟨g,i,none⟩=some (.int .i64 x):=by
 have hi:=(List.getElem?_eq_some_iff.1 hx).1;rcases h.2 with⟨_,h0⟩|⟨g,cap,cur,hv,_,hg,_,_,ht⟩
 ·omega
 ·refine⟨g,cap,hv,hg.cell ?_⟩;have:=Kg hx;rw[←ht,Nat.mul_one,List.getElem?_take]at this;rw[if_pos hi]at this;exact this
theorem bl.first(h:bl w B v l){a:Option Addr}{cap:Nat}(hv:v=.slice a l.length cap){m:Nat}(hm:m≤l.length):bl w B (.slice a m cap) (l.take m)∧aW (.slice a m cap)=aW v:=by
 have hl:(l.take m).length=m:=by rw[List.length_take];omega
 have HH:dZ (l.take m)=(dZ l).take m:=by simp[dZ]
 subst hv;refine⟨⟨by rw[Di,hl];omega,?_⟩,?_⟩
 ·rw[hl];rcases h.2 with⟨hv,h0⟩|⟨g,c,cur,hv,hb,hg,hc,vr,ht⟩
  ·injection hv with g1 g2 g3;subst g1;subst g3;exact .inl ⟨by rw[show m=0 by omega],by omega⟩
  ·cases hv;refine .inr ⟨g,cap,cur,rfl,hb,hg,by omega,vr,?_⟩;rw[HH,←ht,List.take_take,Nat.mul_one,Nat.mul_one,Nat.min_eq_left hm]
 ·cases a<;>rfl
theorem bl.set(h:bl w B v l){i:Nat}(hi:i<l.length){g cap:Nat}(hv:v=.slice (some ⟨g,0,none⟩) l.length cap):∃cur,ak w g cur dA∧i<cur.length∧∀{w':World} {n:Int},ak w' g (b_ cur i [.int .i64 n]) dA→bl w' B v (l.set i n):=by
 subst hv;rcases h.2 with⟨hv,h0⟩|⟨g',c,cur,hv,hb,hg,hc,vr,ht⟩
 ·injection hv with g1;cases g1
 ·cases hv;have EL:i<cur.length:=by omega
  refine⟨cur,hg,EL,fun{w' n} iT=>⟨by rw[Di];simp,.inr ⟨g,cap,_,by simp,hb,iT,by simpa using hc,by rw[Te (by simp;omega)];exact vr,?_⟩⟩⟩;have e1:b_ cur i [.int .i64 n]=cur.set i (.int .i64 n):=by
   unfold b_;rw[List.set_eq_take_append_cons_drop,if_pos EL];simp
  rw[e1,List.length_set,Nat.mul_one,List.take_set,←Nat.mul_one l.length,ht];simp[dZ,List.map_set]
end
def GQ(w0:World)(v:Value)(l:List Int):Prop:=∃a cap,v=.slice a l.length cap∧(0<l.length→∃b q,a=some ⟨b,q,none⟩∧b<w0.heap.size∧w0.rangeAt b q (dZ l))
theorem jI.symm{u v:Value}(h:jI u v):jI v u:=fun k hk hu=>h k hu hk
theorem fN.af{w:World}{B e:Nat}{v:Value}{l:List Is}(h:fN e w B v l):∀k∈aW v,∃L,ak w k L e:=fun k hk=>by
 have hk:=iM.1 hk;rcases h.2 with⟨rfl,_⟩|⟨g,cap,cur,rfl,_,hg,_⟩
 ·simp[Value.ownBlock]at hk
 ·simp only[Value.ownBlock,Option.some.injEq]at hk;subst hk;exact⟨cur,hg⟩
theorem fN.kG{w w':World}{B e:Nat}{v:Value}{l:List Is}{fp:List Nat}(h:fN e w B v l)(hk:ae fp w w')(hn:∀k∈aW v,k∉fp):fN e w' B v l:=Own.keep h hk fun k hv=>hn k (iM.2 hv)
theorem Bj:dH prog 28 1=true:=by kernel_rfl
theorem F3(n:Int):kE prog 28 1 [(0,.int .i64 n)]=some (dA,[Value.int .i64 n].toArray):=by kernel_rfl
theorem yj:wE prog 28 dA 1 8=true:=by decide+kernel
theorem nL{v:Value}(h:v.oneCell'=true):∀u∈[v],u.oneCell'=true:=by
 intro u hu;simp only[List.mem_cons,List.not_mem_nil,or_false]at hu;subst hu;exact h
structure gh where
 s:Value
 c:Value
 ks:Value
 kc:Value
 o:Value
def mC(m:Md)(s c:Value):List Value:=[.int .i64 (m.next:Nat),s,.int .i64 (m.read:Nat),.int .i64 (m.out:Nat),.int .i64 (m.state:Nat),c]
def fg(cv iv:Value)(m k:Md)(p:Pr)(r:gh):List Value:=[cv,iv]++mC m r.s r.c++mC k r.ks r.kc++[r.o,.bool p.2]
def dz(b:Nat)(cv:Value)(r:gh):List Nat:=b::(aW cv++(aW r.s++(aW r.c++(aW r.ks++(aW r.kc++aW r.o)))))
structure Aps(r:gh):Prop where
 sc:jI r.s r.c
 sks:jI r.s r.ks
 skc:jI r.s r.kc
 so:jI r.s r.o
 Rp:jI r.c r.ks
 Rq:jI r.c r.kc
 co:jI r.c r.o
 P5:jI r.ks r.kc
 Rr:jI r.ks r.o
 Rw:jI r.kc r.o
structure Bw(w0 w:World)(b:Nat)(W:List Is)(inp:List Int)(cv iv:Value)(r:gh)(m k:Md)(p:Pr):Prop where
 kp:ae [] w0 w
 ge:w0.heap.size≤b
 bk:ak w b (fg cv iv m k p r) xh
 cd:fN jq w w0.heap.size cv W
 inp:GQ w0 iv inp
 rs:bl w w0.heap.size r.s m.stack
 rc:bl w w0.heap.size r.c m.cells
 rh:bl w w0.heap.size r.ks k.stack
 ri:bl w w0.heap.size r.kc k.cells
 ro:bl w w0.heap.size r.o p.1
 ap:Aps r
def eZ(w0 w w':World)(b:Nat)(W:List Is)(inp:List Int)(cv iv:Value)(r r':gh)(m k:Md)(p:Pr):Prop:=
 Bw w0 w' b W inp cv iv r' m k p∧ae (dz b cv r) w w'∧∀x∈dz b cv r',x∈dz b cv r∨w.heap.size≤x
def mW(w0 w w':World)(b:Nat)(W:List Is)(inp:List Int)(cv iv:Value)(r:gh)(m k:Md)(p:Pr):Prop:=∃r',eZ w0 w w' b W inp cv iv r r' m k p
theorem lA:xh≠dA:=by decide
theorem GR:xh≠jq:=by decide
theorem P6:jq≠dA:=by decide
section
variable{w0 w w1 w2:World}{b:Nat}{W:List Is}{inp:List Int}{cv iv:Value}{r:gh}{m k m' k':Md}{p p':Pr}
theorem Bw.own(h:Bw w0 w b W inp cv iv r m k p):∀x∈dz b cv r,w0.heap.size≤x∧x<w.heap.size:=fun x hx=>by
 simp only[dz,List.mem_cons,List.mem_append]at hx;rcases hx with rfl|hx|hx|hx|hx|hx|hx
 ·exact⟨h.ge,h.bk.lt⟩
 ·exact Own.lt h.cd x (iM.1 hx)
 ·exact h.rs.lt x hx
 ·exact h.rc.lt x hx
 ·exact h.rh.lt x hx
 ·exact h.ri.lt x hx
 ·exact h.ro.lt x hx
theorem Bw.keep{fp:List Nat}(h:Bw w0 w b W inp cv iv r m k p)(hk:ae fp w w1)(hn:∀x∈dz b cv r,x∉fp)(ij:∀x∈fp,w0.heap.size≤x):Bw w0 w1 b W inp cv iv r m k p where
 kp:=h.kp.trans hk fun x hx=>.inr (ij x hx)
 ge:=h.ge
 bk:=hk.af h.bk (hn b (by simp[dz]))
 cd:=h.cd.kG hk fun x hx=>hn x (by simp[dz,hx])
 inp:=h.inp
 rs:=h.rs.keep hk fun x hx=>hn x (by simp[dz,hx])
 rc:=h.rc.keep hk fun x hx=>hn x (by simp[dz,hx])
 rh:=h.rh.keep hk fun x hx=>hn x (by simp[dz,hx])
 ri:=h.ri.keep hk fun x hx=>hn x (by simp[dz,hx])
 ro:=h.ro.keep hk fun x hx=>hn x (by simp[dz,hx])
 ap:=h.ap
theorem Bw.aA(h:Bw w0 w b W inp cv iv r m k p)(hk:ae [] w w1):Bw w0 w1 b W inp cv iv r m k p:=h.keep hk (fun _ _=>by simp) fun _ hx=>by cases hx
theorem eZ.refl(h:Bw w0 w b W inp cv iv r m k p):eZ w0 w w b W inp cv iv r r m k p:=⟨h,ae.refl _ _,fun _ hx=>.inl hx⟩
theorem eZ.aA{r':gh}(h:eZ w0 w w1 b W inp cv iv r r' m k p)(hk:ae [] w1 w2):eZ w0 w w2 b W inp cv iv r r' m k p:=
 ⟨h.1.aA hk,h.2.1.dt hk,h.2.2⟩
theorem eZ.seq{r1 r2:gh}(h1:eZ w0 w w1 b W inp cv iv r r1 m k p)(h:eZ w0 w1 w2 b W inp cv iv r1 r2 m' k' p'):eZ w0 w w2 b W inp cv iv r r2 m' k' p':=by
 obtain⟨_,h2,h3⟩:=h1;obtain⟨g1,g2,g3⟩:=h;refine⟨g1,h2.trans g2 h3,fun x hx=>?_⟩;rcases g3 x hx with h4|h4
 ·exact h3 x h4
 ·exact .inr (Nat.le_trans h2.size h4)
theorem eZ.late{r1:gh}(hk:ae [] w w1)(h:eZ w0 w1 w2 b W inp cv iv r r1 m' k' p'):eZ w0 w w2 b W inp cv iv r r1 m' k' p':=by
 obtain⟨g1,g2,g3⟩:=h;refine⟨g1,hk.bG.tr g2,fun x hx=>?_⟩;rcases g3 x hx with h4|h4
 ·exact .inl h4
 ·exact .inr (Nat.le_trans hk.size h4)
theorem Bw.put(h:Bw w0 w b W inp cv iv r m k p)(hk:ae [b] w w1)(hb:ak w1 b (fg cv iv m' k p' r) xh)(e1:m'.stack=m.stack)(e2:m'.cells=m.cells)(e3:p'.1=p.1):eZ w0 w w1 b W inp cv iv r r m' k p':=by
 refine⟨⟨h.kp.aO hk h.ge,h.ge,hb,?_,h.inp,?_,?_,?_,?_,?_,h.ap⟩,hk.mono fun x hx=>.inl (by rw[List.mem_singleton.1 hx];simp[dz]),fun x hx=>.inl hx⟩
 ·refine h.cd.kG hk fun x hx hm=>?_;obtain⟨L',mB⟩:=h.cd.af x hx;rw[List.mem_singleton.1 hm]at mB;exact ak.ne h.bk mB GR rfl
 ·rw[e1];exact h.rs.keep hk (h.rs.ne h.bk lA)
 ·rw[e2];exact h.rc.keep hk (h.rc.ne h.bk lA)
 ·exact h.rh.keep hk (h.rh.ne h.bk lA)
 ·exact h.ri.keep hk (h.ri.ne h.bk lA)
 ·rw[e3];exact h.ro.keep hk (h.ro.ne h.bk lA)
theorem Bw.ZL(h:Bw w0 w b W inp cv iv r m k p){s':Value}(ah:ae (aW r.s) w w1)(bN:bl w1 w0.heap.size s' m'.stack)(fW:∀x∈aW s',x∈aW r.s∨w.heap.size≤x)(hk:ae [b] w1 w2)(hb:ak w2 b (fg cv iv m' k p {r with s:=s'}) xh)(e2:m'.cells=m.cells):eZ w0 w w2 b W inp cv iv r {r with s:=s'} m' k p:=by
 have bS:∀{v:Value} {l:List Int},bl w w0.heap.size v l→jI r.s v→bl w2 w0.heap.size v l∧jI s' v:=fun{v l} hv ha=>by
  have h1:=hv.keep ah fun x hx hm=>ha x hm hx;have oR:=ah.af h.bk fun hm=>h.rs.ne h.bk lA b hm (by simp);refine⟨h1.keep hk (h1.ne oR lA),fun x hx hm=>?_⟩;rcases fW x hx with h2|h2
  ·exact ha x h2 hm
  ·have:=(hv.lt x hm).2;omega
 have oR:=ah.af h.bk fun hm=>h.rs.ne h.bk lA b hm (by simp);have GS:=h.cd.kG ah fun x hx hm=>by
  obtain⟨L1,HI⟩:=h.cd.af x hx;obtain⟨L2,HJ⟩:=h.rs.af x hm;exact ak.ne HI HJ P6 rfl
 have c1:=bS h.rc h.ap.sc;have c2:=bS h.rh h.ap.sks;have c3:=bS h.ri h.ap.skc;have c4:=bS h.ro h.ap.so;refine⟨⟨(h.kp.trans ah fun x hx=>.inr (h.rs.lt x hx).1).aO hk h.ge,h.ge,hb,?_,h.inp,bN.keep hk (bN.ne oR lA),by rw[e2];exact c1.1,c2.1,c3.1,c4.1,⟨c1.2,c2.2,c3.2,c4.2,h.ap.Rp,h.ap.Rq,h.ap.co,h.ap.P5,h.ap.Rr,h.ap.Rw⟩⟩,?_,?_⟩
 ·refine GS.kG hk fun x hx hm=>?_;obtain⟨L',mB⟩:=GS.af x hx;rw[List.mem_singleton.1 hm]at mB;exact ak.ne oR mB GR rfl
 ·exact(ah.mono fun x hx=>.inl (by simp[dz,hx])).trans hk fun x hx=>.inl (by rw[List.mem_singleton.1 hx];simp[dz])
 ·intro x hx;simp only[dz,List.mem_cons,List.mem_append]at hx⊢;rcases hx with h1|h1|h1|h1
  ·exact .inl (.inl h1)
  ·exact .inl (.inr (.inl h1))
  ·rcases fW x h1 with h2|h2
   ·exact .inl (.inr (.inr (.inl h2)))
   ·exact .inr h2
  ·exact .inl (.inr (.inr (.inr h1)))
end
section
variable{w0 w:World}{b:Nat}{W:List Is}{inp:List Int}{cv iv:Value}{r:gh}{m k:Md}{p:Pr}
theorem zr(h:Bw w0 w b W inp cv iv r m k p)(hl:m.stack.length≤1000)(n:Int):aC prog 87 [.pointer (some ⟨b,0,none⟩),.int .i64 n] w fun v w'=>v=.tuple #[]∧∃s',eZ w0 w w' b W inp cv iv r {r with s:=s'} {m with stack:=m.stack++[n]} k p:=by
 refine aG 16 func87 ?_;refine lB h.bk ?_;refine au ?_;refine aj (eE dA [.int .i64 n] rfl rfl (F3 n) ?_);intro w1 g hg bt ah aM;have h1:=h.aA ah;refine aj (ja w0.heap.size dA 1 8 (dZ m.stack) [.int .i64 n] rfl rfl rfl yj h1.rs (aM.range rfl) rfl (nL rfl) (by decide) (by unfold maxLen;omega) (by omega) h1.kp.size ?_);intro g2 cap w2 D2 mQ;have KD:bl w2 w0.heap.size (.slice (some ⟨g2,0,none⟩) (m.stack.length+1) cap) (m.stack++[n]):=by
  have e1:(m.stack++[n]).length=m.stack.length+1:=by simp
  have e2:dZ (m.stack++[n])=dZ m.stack++[.int .i64 n]:=by rw[Ge];rfl
  unfold bl;rw[e1,e2];exact D2
 have an:ae (aW r.s) w1 w2:=by
  rcases mQ with⟨h3,_,h4⟩|⟨_,h4,_⟩
  ·rw[aW,h3];exact h4
  ·exact h4.bG
 have fW:∀x∈aW (.slice (some ⟨g2,0,none⟩) (m.stack.length+1) cap),x∈aW r.s∨w1.heap.size≤x:=fun x hx=>by
  have hx:x=g2:=by simpa[aW,Value.ownBlock]using hx
  subst hx;rcases mQ with⟨h3,_,_⟩|⟨h3,_,_⟩
  ·exact .inl (iM.2 h3)
  ·exact .inr (by omega)
 refine au ?_;refine aj (aH [.slice (some ⟨g2,0,none⟩) (m.stack.length+1) cap] rfl Bj (an.af h1.bk fun hm=>h1.rs.ne h1.bk lA b hm (by simp)) (by simp[fg,mC]) (nL rfl) ?_);intro w3 cw aw aQ;refine au ?_;refine bK func87 rfl ⟨rfl,?_⟩;have hto:=h1.ZL (m':={m with stack:=m.stack++[n]}) an KD fW aw aQ rfl;exact⟨_,eZ.late ah hto⟩
theorem p7(h:Bw w0 w b W inp cv iv r m k p)(h0:0<m.stack.length)(hl:m.stack.length≤1000)(top:Int)(htp:aR m.stack=top):aC prog 88 [.pointer (some ⟨b,0,none⟩)] w fun v w'=>v=.int .i64 top∧∃s',eZ w0 w w' b W inp cv iv r {r with s:=s'} {m with stack:=m.stack.dropLast} k p:=by
 subst htp;obtain⟨j,hj⟩:∃j,m.stack.length=j+1:=⟨m.stack.length-1,by omega⟩;have amC:m.stack[j]?=some (aR m.stack):=by
  unfold aR;rw[List.getLastD_eq_getLast?,List.getLast?_eq_getElem?,hj,Nat.add_sub_cancel,List.getElem?_eq_getElem (by omega)];rfl
 obtain⟨g,cap,hv,fB⟩:=h.rs.at amC;refine aG 32 func88 ?_;have je:ak w b (fg cv iv m k p {r with s:=.slice (some ⟨g,0,none⟩) m.stack.length cap}) xh:=by rw[←hv];exact h.bk
 have bN:=h.rs.first hv (m:=j) (by omega);have yv:m.stack.length≤cap:=by have:=h.rs;rw[hv]at this;exact this.cap
 refine lB je ?_;refine nM ((j:Nat):Int) ?_;refine lB je ?_;refine au ?_;refine ai _ (bJ j rfl (by omega) w) ?_;refine ai _ (aB rfl ((by rw[Nat.zero_add,Nat.mul_one];exact fB))) ?_;refine lB je ?_;refine au ?_;refine ai (.slice (some ⟨g,0,none⟩) j cap) (I7 j hT rfl rfl rfl rfl rfl (by omega) w) ?_;refine au ?_;refine aj (aH [.slice (some ⟨g,0,none⟩) j cap] rfl Bj je (by simp[fg,mC]) (nL rfl) ?_);intro w3 cw aw aQ;refine au ?_;have xi:m.stack.dropLast=m.stack.take j:=by rw[List.dropLast_eq_take,hj,Nat.add_sub_cancel]
 refine ay func88 rfl ⟨rfl,?_⟩;exact⟨_,h.ZL (s':=.slice (some ⟨g,0,none⟩) j cap) (m':={m with stack:=m.stack.dropLast}) (ae.refl _ _) (by show bl w w0.heap.size _ m.stack.dropLast;rw[xi];exact bN.1) (fun x hx=>.inl (by rw[←bN.2];exact hx)) aw aQ rfl⟩
theorem Wg(q:Bool)(w:World):aC prog 89 [.bool q] w fun v w'=>v=.int .i64 (sT q)∧w'=w:=by
 refine aG 4 func89 ?_;cases q
 ·refine au ?_;exact ay func89 rfl ⟨rfl,rfl⟩
 ·refine au ?_;exact ay func89 rfl ⟨rfl,rfl⟩
end
section
variable{w0 w w1 w2:World}{b:Nat}{W:List Is}{inp:List Int}{cv iv:Value}{r:gh}{m k m':Md}{p p':Pr}
theorem Bw.amD(h:Bw w0 w b W inp cv iv r m k p){o':Value}(ah:ae (aW r.o) w w1)(bN:bl w1 w0.heap.size o' p'.1)(fW:∀x∈aW o',x∈aW r.o∨w.heap.size≤x)(hk:ae [b] w1 w2)(hb:ak w2 b (fg cv iv m k p' {r with o:=o'}) xh):eZ w0 w w2 b W inp cv iv r {r with o:=o'} m k p':=by
 have oR:=ah.af h.bk fun hm=>h.ro.ne h.bk lA b hm (by simp);have bS:∀{v:Value} {l:List Int},bl w w0.heap.size v l→jI v r.o→bl w2 w0.heap.size v l∧jI v o':=fun{v l} hv ha=>by
  have h1:=hv.keep ah fun x hx hm=>ha x hx hm;refine⟨h1.keep hk (h1.ne oR lA),fun x hx hm=>?_⟩;rcases fW x hm with h2|h2
  ·exact ha x hx h2
  ·have:=(hv.lt x hx).2;omega
 have GS:=h.cd.kG ah fun x hx hm=>by
  obtain⟨L1,HI⟩:=h.cd.af x hx;obtain⟨L2,HJ⟩:=h.ro.af x hm;exact ak.ne HI HJ P6 rfl
 have c1:=bS h.rs h.ap.so;have c2:=bS h.rc h.ap.co;have c3:=bS h.rh h.ap.Rr;have c4:=bS h.ri h.ap.Rw;refine⟨⟨(h.kp.trans ah fun x hx=>.inr (h.ro.lt x hx).1).aO hk h.ge,h.ge,hb,?_,h.inp,c1.1,c2.1,c3.1,c4.1,bN.keep hk (bN.ne oR lA),⟨h.ap.sc,h.ap.sks,h.ap.skc,c1.2,h.ap.Rp,h.ap.Rq,c2.2,h.ap.P5,c3.2,c4.2⟩⟩,?_,?_⟩
 ·refine GS.kG hk fun x hx hm=>?_;obtain⟨L',mB⟩:=GS.af x hx;rw[List.mem_singleton.1 hm]at mB;exact ak.ne oR mB GR rfl
 ·exact(ah.mono fun x hx=>.inl (by simp[dz,hx])).trans hk fun x hx=>.inl (by rw[List.mem_singleton.1 hx];simp[dz])
 ·intro x hx;simp only[dz,List.mem_cons,List.mem_append]at hx⊢;rcases hx with h1|h1|h1|h1|h1|h1|h1
  ·exact .inl (.inl h1)
  ·exact .inl (.inr (.inl h1))
  ·exact .inl (.inr (.inr (.inl h1)))
  ·exact .inl (.inr (.inr (.inr (.inl h1))))
  ·exact .inl (.inr (.inr (.inr (.inr (.inl h1)))))
  ·exact .inl (.inr (.inr (.inr (.inr (.inr (.inl h1))))))
  ·rcases fW x h1 with h2|h2
   ·exact .inl (.inr (.inr (.inr (.inr (.inr (.inr h2))))))
   ·exact .inr h2
theorem Bw.P7(h:Bw w0 w b W inp cv iv r m k p)(ah:ae (aW r.c) w w1){cs:List Int}(bN:bl w1 w0.heap.size r.c cs):eZ w0 w w1 b W inp cv iv r r {m with cells:=cs} k p:=by
 have oR:=ah.af h.bk fun hm=>h.rc.ne h.bk lA b hm (by simp);refine⟨⟨h.kp.trans ah fun x hx=>.inr (h.rc.lt x hx).1,h.ge,oR,?_,h.inp,h.rs.keep ah fun x hx hm=>h.ap.sc x hx hm,bN,h.rh.keep ah fun x hx hm=>h.ap.Rp x hm hx,h.ri.keep ah fun x hx hm=>h.ap.Rq x hm hx,h.ro.keep ah fun x hx hm=>h.ap.co x hm hx,h.ap⟩,ah.mono fun x hx=>.inl (by simp[dz,hx]),fun x hx=>.inl hx⟩;exact h.cd.kG ah fun x hx hm=>by
  obtain⟨L1,HI⟩:=h.cd.af x hx;obtain⟨L2,HJ⟩:=h.rc.af x hm;exact ak.ne HI HJ P6 rfl
theorem Bw.amE(h:Bw w0 w b W inp cv iv r m k p){s' c':Value}(ah:ae [] w w1)(hs:bl w1 w.heap.size s' m.stack)(hc:bl w1 w.heap.size c' m.cells)(HK:jI s' c')(hk:ae [b] w1 w2)(hb:ak w2 b (fg cv iv m m p {r with ks:=s',kc:=c'}) xh):eZ w0 w w2 b W inp cv iv r {r with ks:=s',kc:=c'} m m p:=by
 have h1:=h.aA ah;have low:∀{v:Value} {l:List Int},bl w1 w.heap.size v l→bl w2 w0.heap.size v l:=fun{v l} hv=>by
  have:=hv.keep hk (hv.ne h1.bk lA);refine⟨this.1,?_⟩;rcases this.2 with h0|⟨g,cap,cur,e1,e2,e3⟩
  ·exact .inl h0
  ·exact .inr ⟨g,cap,cur,e1,Nat.le_trans h.kp.size e2,e3⟩
 have new:∀{u v:Value} {l l':List Int},bl w w0.heap.size u l→bl w1 w.heap.size v l'→jI u v:=fun{u v l l'} hu hv x hx hm=>by
  have:=(hu.lt x hx).2;have:=(hv.lt x hm).1;omega
 refine⟨⟨(h.kp.tr ah).aO hk h.ge,h.ge,hb,?_,h.inp,h1.rs.keep hk (h1.rs.ne h1.bk lA),h1.rc.keep hk (h1.rc.ne h1.bk lA),low hs,low hc,h1.ro.keep hk (h1.ro.ne h1.bk lA),⟨h.ap.sc,new h.rs hs,new h.rs hc,h.ap.so,new h.rc hs,new h.rc hc,h.ap.co,HK,(new h.ro hs).symm,(new h.ro hc).symm⟩⟩,?_,?_⟩
 ·refine h1.cd.kG hk fun x hx hm=>?_;obtain⟨L',mB⟩:=h1.cd.af x hx;rw[List.mem_singleton.1 hm]at mB;exact ak.ne h1.bk mB GR rfl
 ·exact ah.bG.trans hk fun x hx=>.inl (by rw[List.mem_singleton.1 hx];simp[dz])
 ·intro x hx;simp only[dz,List.mem_cons,List.mem_append]at hx⊢;rcases hx with h1|h1|h1|h1|h1|h1|h1
  ·exact .inl (.inl h1)
  ·exact .inl (.inr (.inl h1))
  ·exact .inl (.inr (.inr (.inl h1)))
  ·exact .inl (.inr (.inr (.inr (.inl h1))))
  ·exact .inr (hs.lt x h1).1
  ·exact .inr (hc.lt x h1).1
  ·exact .inl (.inr (.inr (.inr (.inr (.inr (.inr h1))))))
theorem eZ.af{r':gh}(h:eZ w0 w w1 b W inp cv iv r r' m k p){x:Nat}{L:List Value}{e:TypeId}(hx:x∉dz b cv r)(hb:ak w x L e):ak w1 x L e∧x∉dz b cv r':=
 ⟨h.2.1.af hb hx,fun hm=>by
  rcases h.2.2 x hm with h1|h1
  ·exact hx h1
  ·have:=hb.lt;omega⟩
end
theorem bl.Cs{w:World}{B:Nat}{v:Value}{l:List Int}(h:bl w B v l){i:Nat}{x:Int}(hx:l[i]?=some x):∃g cap,v=.slice (some ⟨g,0,none⟩) l.length cap∧g<w.heap.size∧w.rangeAt g i [.int .i64 x]:=by
 obtain⟨g,cap,hv,hc⟩:=h.at hx;refine⟨g,cap,hv,(h.lt g (by rw[hv];simp[aW,Value.ownBlock])).2,fun j u hu=>?_⟩;have hj:j=0:=by have:=(List.getElem?_eq_some_iff.1 hu).1;simp at this;omega
 subst hj;have:u=.int .i64 x:=by simpa using hu.symm
 subst this;exact hc
theorem ajo{l:List Int}{j:Nat}(h:l.length=j+1):l[j]?=some (aR l):=by
 unfold aR;rw[List.getLastD_eq_getLast?,List.getLast?_eq_getElem?,h,Nat.add_sub_cancel,List.getElem?_eq_getElem (by omega)];rfl
theorem A3{l:List Int}{a:Nat}(h:a<l.length):l[a]?=some (cellAt l ((a:Nat):Int)):=by
 unfold cellAt;rw[Int.toNat_natCast,List.getD_eq_getElem?_getD,List.getElem?_eq_getElem h];rfl
def eS(w:World)(v:Value)(l:List Int):Prop:=∃a cap,v=.slice a l.length cap∧(0<l.length→∃b q,a=some ⟨b,q,none⟩∧b<w.heap.size∧w.rangeAt b q (dZ l))
theorem bl.nQ{w:World}{B:Nat}{v:Value}{l:List Int}(h:bl w B v l):eS w v l:=by
 rcases h.2 with⟨h1,h2⟩|⟨g,cap,cur,h1,hB,hb,hc,hl,ht⟩
 ·exact⟨none,0,by rw[h1,h2],fun h0=>by omega⟩
 ·exact⟨_,cap,h1,fun h0=>⟨g,0,rfl,hb.lt,hb.range (by rw[List.drop_zero,Di,←Nat.mul_one l.length];exact ht)⟩⟩
theorem eS.aA{w w':World}{v:Value}{l:List Int}(h:eS w v l)(hk:ae [] w w'):eS w' v l:=by
 obtain⟨a,cap,h1,h2⟩:=h;refine⟨a,cap,h1,fun h0=>?_⟩;obtain⟨b,q,h3,h4,h5⟩:=h2 h0;exact⟨b,q,h3,Nat.lt_of_lt_of_le h4 hk.size,ft h5 hk h4 (by simp)⟩
section
variable{P:Program}{n:Nat}{σ:Env}{o:Oper}{w:World}{K:Value→World→Prop}
theorem Uw{t:TypeId}{s x:Operand}{vx:Value}{e:Nat}(B:Nat)(l:List Int)(ho:o.op=.call {callee:=.builtin .append,args:=#[s,x],argTypes:=#[t,t]})(hs:ev σ s=some (.slice none 0 0))(hx:ev σ x=some vx) (hP:wE P t e 1 8=true)(he:e=dA)(hm:eS w vx l)(hb:l.length≤1000000)(hB:B≤w.heap.size) (hK:∀v' w',bl w' B v' l→(∀k∈aW v',w.heap.size≤k)→ae [] w w'→K v' w'):iE P n σ o w K:=by
 subst he;obtain⟨a,cap,rfl,h2⟩:=hm;by_cases h0:0<l.length
 ·obtain⟨b,q,rfl,_,hr⟩:=h2 h0;refine ja B dA 1 8 [] (dZ l) ho hs hx hP (Own.nil _ _ _ _) hr (by rw[Di];omega) (XE l) h0 (by unfold maxLen;omega) (by omega) hB ?_;intro g c w' bW hk;rw[Nat.zero_add,List.nil_append]at bW;rw[Nat.zero_add];rcases hk with⟨h3,_,_⟩|⟨h3,h4,_⟩
  ·cases h3
  ·refine hK _ _ bW (fun k hk=>?_) h4;have:k=g:=by simpa[aW,Value.ownBlock]using hk
   omega
 ·have Cu:l=[]:=List.eq_nil_of_length_eq_zero (by omega);subst Cu;exact NK ho hs hx hP (bl.nil w B) (hK _ _ (bl.nil w B) (fun k hk=>by simp[aW,Value.ownBlock]at hk) (ae.refl _ _))
end
theorem N6:dH prog 2 1=true:=by kernel_rfl
theorem Jd{v:Value}{n:Nat}(h:∃a cap,v=.slice a n cap):v.oneCell'=true∧v.cells=[v].toArray:=by
 obtain⟨a,cap,rfl⟩:=h;exact⟨rfl,rfl⟩
theorem XF:((prog.info? LZ).bind (·.zero)).map (·.cells)=some (mC ⟨0,[],0,0,0,[]⟩ (.slice none 0 0) (.slice none 0 0)).toArray:=by kernel_rfl
theorem JY:dH prog LZ 6=true:=by kernel_rfl
theorem Kh{m:Md}{s c:Value}(hs:s.oneCell'=true)(hc:c.oneCell'=true):∀u∈mC m s c,u.oneCell'=true:=by
 intro u hu;simp only[mC,List.mem_cons,List.not_mem_nil,or_false]at hu;rcases hu with rfl|rfl|rfl|rfl|rfl|rfl
 ·rfl
 ·exact hs
 ·rfl
 ·rfl
 ·rfl
 ·exact hc
theorem MZ{w:World}{m:Md}{s c:Value}(hs:eS w s m.stack)(hc:eS w c m.cells)(hl:m.stack.length≤1000∧m.cells.length≤1000):aC prog 52 [.agg (mC m s c).toArray] w fun v w'=>∃s' c',v=.agg (mC m s' c').toArray∧bl w' w.heap.size s' m.stack∧bl w' w.heap.size c' m.cells∧jI s' c'∧ae [] w w':=by
 have EG:=hs;have cG:=hc;obtain⟨sa,KZ,rfl,_⟩:=EG;obtain⟨ca,cA,rfl,_⟩:=cG;refine aG 16 func52 ?_;refine au ?_;refine aj (bY (mC m (.slice sa m.stack.length KZ) (.slice ca m.cells.length cA)) rfl ?_);intro w1 x1 cJ bt ah aM;refine aj (bO _ rfl XF ?_);intro w2 x2 gi cE an aX;have u0:=an.af aM (by simp);have br:=ah.tr an;refine au ?_;refine bC (fun w'=>ae [] w2 w') [9,11] bE ?_;have hS:ae [] w2 w2.drew:=(ae.refl _ _).drew;generalize w2.drew=w3 at*;refine tk 0 ?_;refine tk 1 ?_;refine aI 2 (.slice sa m.stack.length KZ) rfl (fun w9 aq=>aB rfl ((aq.af u0 (by simp)).cell rfl)) hS ?_;refine tk 4 ?_;refine tk 5 ?_;refine aI 6 (.slice ca m.cells.length cA) rfl (fun w9 aq=>aB rfl ((aq.af u0 (by simp)).cell rfl)) hS ?_;refine a8 3 rfl (Uw (e:=dA) w.heap.size m.stack rfl rfl rfl yj rfl (hs.aA (br.tr hS)) (by omega) (br.tr hS).size ?_);intro s' w4 tB hns ax;refine⟨fun _=>hS.tr ax,?_⟩;have gR:=hS.tr ax;obtain⟨s1,s2⟩:=Jd tB.form;refine tk 8 ?_;refine a8 7 rfl (Uw (e:=dA) w.heap.size m.cells rfl rfl rfl yj rfl (hc.aA (br.tr gR)) (by omega) (br.tr gR).size ?_);intro c' w5 P8 uu aE;refine⟨fun _=>gR.tr aE,?_⟩;have ZM:=tB.keep aE (fun _ _=>by simp);have amF:jI s' c':=fun x hx hm=>by
  have:=(tB.lt x hx).2;have:=uu x hm;omega
 have jO:=gR.tr aE;obtain⟨c1,c2⟩:=Jd P8.form;have Ei:=jO.af u0 (by simp);refine a8 9 rfl (xS [s'] rfl rfl rfl s2 Bj Ei (by simp[mC]) (nL s1) ?_);intro w6 iI aD dM;refine⟨fun h=>absurd (by simp) h,?_⟩;refine tk 10 ?_;refine a8 11 rfl (xS [c'] rfl rfl rfl c2 Bj dM (by simp[mC,b_]) (nL c1) ?_);intro w7 jr aN eC;refine⟨fun h=>absurd (by simp) h,?_⟩;refine bm ?_;have amG:ak w7 x1 (mC m s' c') LZ:=eC;have ud:ae [x1] w5 w7:=aD.tr aN;have lV:ae [x1] w2 w7:=jO.bG.tr ud;have az:∀{v:Value} {l:List Int},bl w5 w.heap.size v l→bl w7 w.heap.size v l:=fun{v l} hv=>hv.keep ud (hv.ne Ei (by decide));refine au ?_;refine ai (.agg (mC m s' c').toArray) (bF (mC m s' c') rfl (amG.range (by rfl))) ?_;refine aj (aH (mC m s' c') rfl JY (lV.af aX (by simp;omega)) (by simp[mC]) (Kh s1 c1) ?_);intro w8 jP aS cB;rw[bs (by rfl)]at cB;refine au ?_;refine df func52 (.inr (.inr (.inl ⟨_,_,_,rfl,rfl,cV hT cB rfl⟩))) ⟨s',c',rfl,?_,?_,amF,?_⟩
 ·exact(az ZM).keep aS ((az ZM).ne (lV.af aX (by simp;omega)) (by decide))
 ·exact(az P8).keep aS ((az P8).ne (lV.af aX (by simp;omega)) (by decide))
 ·exact(br.aO lV (by omega)).aO aS (by omega)
mutual
def CB(nv:Nat):ET→Prop
 |.mk op v _ l=>(op=2∨op=3→0≤v∧v.toNat<nv)∧K8 nv l
def K8(nv:Nat):List ET→Prop
 |[]=>True
 |t::r=>CB nv t∧K8 nv r
end
mutual
def HU(nv:Nat):ST→Prop
 |.mk op v e f b o=>1≤op∧op≤7∧(iA op=true→0≤v∧v.toNat<nv)∧(dw op=true→CB nv e)∧(cY op=true→CB nv f)∧sW nv b∧sW nv o
def sW(nv:Nat):List ST→Prop
 |[]=>True
 |t::r=>HU nv t∧sW nv r
end
theorem OB{nv:Nat}:∀{l:List ET} {i:Nat} {t:ET},K8 nv l→l[i]?=some t→CB nv t
 |[],_,_,_,h=>by simp at h
 |x::r,0,t,h,e=>by simp at e;subst e;exact h.1
 |x::r,i+1,t,h,e=>by simp at e;exact OB h.2 e
theorem OC{nv:Nat}:∀{l:List ST} {i:Nat} {t:ST},sW nv l→l[i]?=some t→HU nv t
 |[],_,_,_,h=>by simp at h
 |x::r,0,t,h,e=>by simp at e;subst e;exact h.1
 |x::r,i+1,t,h,e=>by simp at e;exact OC h.2 e
mutual
theorem OD{nv:Nat}:∀(t:ET) {d k k':Nat},gO nv t d k=.ok k'→CB nv t
 |.mk op v n l,d,k,k',h=>by
  obtain⟨_,h1,k1,h2⟩:=DE h;obtain⟨_,_,_,_,c,_⟩:=DF h1;exact⟨c,Wk l h2⟩
theorem Wk{nv:Nat}:∀(l:List ET) {d k k':Nat},eY nv l d k=.ok k'→K8 nv l
 |[],_,_,_,_=>trivial
 |t::r,d,k,k',h=>by
  obtain⟨⟨k1,h1⟩,k2,h2⟩:=Du h;exact⟨OD t h1,Wk r h2⟩
end
mutual
theorem ajA{nv:Nat}:∀(t:ST) {d k k':Nat},kM nv t d k=.ok k'→HU nv t
 |.mk op v e f b o,d,k,k',h=>by
  obtain⟨_,h1,h2,h3,⟨k1,k2,h4⟩,k3,k4,h5⟩:=DG h;obtain⟨a,a',_,_,_,_,c,_⟩:=DH h1;exact⟨a,a',c,fun hn=>(let⟨_,_,hc⟩:=h2 hn;OD e hc),fun hn=>(let⟨_,_,hc⟩:=h3 hn;OD f hc),JH b h4,JH o h5⟩
theorem JH{nv:Nat}:∀(l:List ST) {d k k':Nat},dI nv l d k=.ok k'→sW nv l
 |[],_,_,_,_=>trivial
 |t::r,d,k,k',h=>by
  obtain⟨⟨k1,h1⟩,k2,h2⟩:=Dw h;exact⟨ajA t h1,JH r h2⟩
end
theorem Vc{w:World}{b p:Nat}{cs ds:List Value}(h:w.rangeAt b p cs)(k:Nat)(hd:(cs.drop k).take ds.length=ds):w.rangeAt b (p+k) ds:=fun j u hu=>by
 rw[←hd,List.getElem?_take]at hu;split at hu
 ·rw[List.getElem?_drop]at hu;have:=h (k+j) u hu
  rwa [←Nat.add_assoc]at this
 ·cases hu
def ep(op v:Int)(ce cf:List Value)(bv ov:Value):List Value:=[.int .i64 op,.int .i64 v]++ce++cf++[bv,ov]
structure BE(F:Nat→Prop)(w:World)(b p:Nat)(op v:Int)(e f:ET)(lb lo:List ST)(ce cf:List Value)(bv ov:Value):Prop where
 whole:w.rangeAt b p (ep op v ce cf bv ov)
 cop:w.cell? ⟨b,p+0,none⟩=some (.int .i64 op)
 cv:w.cell? ⟨b,p+1,none⟩=some (.int .i64 v)
 re:w.rangeAt b (p+2) ce
 rf:w.rangeAt b (p+6) cf
 cb:w.cell? ⟨b,p+10,none⟩=some bv
 co:w.cell? ⟨b,p+11,none⟩=some ov
 he:dY F w ce e
 hf:dY F w cf f
 hb:eM F w bv lb
 ho:eM F w ov lo
 MV:F b
theorem jl{cs:List Value}(h:cs.length=4):∃a b c d,cs=[a,b,c,d]:=by
 match cs,h with
 |[a,b,c,d],_=>exact⟨a,b,c,d,rfl⟩
theorem Wa{F:Nat→Prop}{w:World}{b p:Nat}{op v:Int}{e f:ET}{lb lo:List ST}{ce cf:List Value}{bv ov:Value}(h:w.rangeAt b p (ep op v ce cf bv ov))(hF:F b)(he:dY F w ce e)(hf:dY F w cf f)(hb:eM F w bv lb)(ho:eM F w ov lo):BE F w b p op v e f lb lo ce cf bv ov:=by
 obtain⟨a0,a1,a2,a3,rfl⟩:=jl he.length;obtain⟨b0,b1,b2,b3,rfl⟩:=jl hf.length;exact⟨h,h 0 _ rfl,h 1 _ rfl,Vc h 2 rfl,Vc h 6 rfl,h 10 _ rfl,h 11 _ rfl,he,hf,hb,ho,hF⟩
theorem eM.YJ{F:Nat→Prop}{w:World}{x:Value}{l:List ST}(h:eM F w x l){i:Nat}{op v:Int}{e f:ET}{lb lo:List ST}(ht:l[i]?=some (.mk op v e f lb lo)):∃b q cap ce cf bv ov,x=.slice (some ⟨b,q,none⟩) l.length cap∧BE F w b (q+i*12) op v e f lb lo ce cf bv ov:=by
 obtain⟨b,q,cap,ci,hv,hF,dD,mJ⟩:=h.at ht;obtain⟨ce,cf,bv,ov,rfl,he,hf,hb,ho⟩:=mJ.inv;exact⟨b,q,cap,ce,cf,bv,ov,hv,Wa dD hF he hf hb ho⟩
theorem BE.keep{F:Nat→Prop}{w w':World}{b p:Nat}{op v:Int}{e f:ET}{lb lo:List ST}{ce cf:List Value}{bv ov:Value}{fp:List Nat}(h:BE F w b p op v e f lb lo ce cf bv ov)(hk:ae fp w w')(hs:oN F w fp):BE F w' b p op v e f lb lo ce cf bv ov:=
 Wa (ft h.whole hk (hs b h.MV).1 (hs b h.MV).2) h.MV (h.he.keep hk hs) (h.hf.keep hk hs) (h.hb.keep hk hs) (h.ho.keep hk hs)
theorem BE.stmt{F:Nat→Prop}{w:World}{b p:Nat}{op v:Int}{e f:ET}{lb lo:List ST}{ce cf:List Value}{bv ov:Value}(h:BE F w b p op v e f lb lo ce cf bv ov):iO F w (ep op v ce cf bv ov) (.mk op v e f lb lo):=iO.of h.he h.hf h.hb h.ho
structure Ky(F:Nat→Prop)(w:World)(b p:Nat)(op v n:Int)(l:List ET)(lv:Value):Prop where
 whole:w.rangeAt b p [.int .i64 op,.int .i64 v,.int .i64 n,lv]
 cop:w.cell? ⟨b,p+0,none⟩=some (.int .i64 op)
 cv:w.cell? ⟨b,p+1,none⟩=some (.int .i64 v)
 cn:w.cell? ⟨b,p+2,none⟩=some (.int .i64 n)
 cl:w.cell? ⟨b,p+3,none⟩=some lv
 hl:lQ F w lv l
 MV:F b
theorem ahq{F:Nat→Prop}{w:World}{b p:Nat}{op v n:Int}{l:List ET}{lv:Value}(h:w.rangeAt b p [.int .i64 op,.int .i64 v,.int .i64 n,lv])(hF:F b)(hl:lQ F w lv l):Ky F w b p op v n l lv:=
 ⟨h,h 0 _ rfl,h 1 _ rfl,h 2 _ rfl,h 3 _ rfl,hl,hF⟩
theorem lQ.akX{F:Nat→Prop}{w:World}{x:Value}{l:List ET}(h:lQ F w x l){i:Nat}{op v n:Int}{l':List ET}(ht:l[i]?=some (.mk op v n l')):∃b q cap lv,x=.slice (some ⟨b,q,none⟩) l.length cap∧Ky F w b (q+i*4) op v n l' lv:=by
 obtain⟨b,q,cap,ci,hv,hF,dD,mJ⟩:=h.at ht;obtain⟨lv,rfl,hl⟩:=mJ.inv;exact⟨b,q,cap,lv,hv,ahq dD hF hl⟩
theorem Ky.expr{F:Nat→Prop}{w:World}{b p:Nat}{op v n:Int}{l:List ET}{lv:Value}(h:Ky F w b p op v n l lv):dY F w [.int .i64 op,.int .i64 v,.int .i64 n,lv] (.mk op v n l):=dY.of h.hl
theorem NT(op:Int)(w:World):aC prog 256 [.int .i64 op] w fun v w'=>v=.int .i64 (partsOf op)∧w'=w:=by
 refine aG 20 func256 ?_;have h:op<1∨op>8∨op=1∨op=2∨op=3∨(4≤op∧op≤8):=by omega
 rcases h with h|h|h|h|h|h<;>(refine aU ?_;refine ay func256 rfl ⟨?_,rfl⟩;congr 1;(unfold partsOf;repeat' split)<;>omega)
def B4(op:Int):Value:=.tuple #[.bool (dw op),.bool (cY op),.bool (iA op),.bool (mn op),.bool (lz op)]
theorem Gf(op:Int)(w:World):aC prog 221 [.int .i64 op] w fun v w'=>v=B4 op∧w'=w:=by
 refine aG 20 func221 ?_;have h:op=1∨op=2∨op=3∨op=4∨op=5∨op=6∨(op≠1∧op≠2∧op≠3∧op≠4∧op≠5∧op≠6):=by omega
 rcases h with h|h|h|h|h|h|h
 ·subst h;refine aU ?_;exact Bk func221 rfl rfl rfl rfl rfl rfl ⟨rfl,rfl⟩
 ·subst h;refine aU ?_;exact Bk func221 rfl rfl rfl rfl rfl rfl ⟨rfl,rfl⟩
 ·subst h;refine aU ?_;exact Bk func221 rfl rfl rfl rfl rfl rfl ⟨rfl,rfl⟩
 ·subst h;refine aU ?_;exact Bk func221 rfl rfl rfl rfl rfl rfl ⟨rfl,rfl⟩
 ·subst h;refine aU ?_;exact Bk func221 rfl rfl rfl rfl rfl rfl ⟨rfl,rfl⟩
 ·subst h;refine aU ?_;exact Bk func221 rfl rfl rfl rfl rfl rfl ⟨rfl,rfl⟩
 ·refine aU ?_;refine Bk func221 rfl rfl rfl rfl rfl rfl ⟨?_,rfl⟩;simp[B4,dw,cY,iA,mn,lz,h]
theorem O9{s:ByteArray}{j:Nat}(h:j<s.size):s[j]?=some (s.data.toList[j]'(by simpa using h)):=by
 rw[getElem?_pos s j h];rfl
theorem Tf{l:List UInt8}{i:Nat}(h:i<l.length):(l.take (i+1)).all letter=((l.take i).all letter&&letter l[i]):=by
 rw[List.take_succ_eq_append_getElem h,List.all_append];simp only[List.all_cons,List.all_nil,Bool.and_true]
theorem Ta{l:List UInt8}{i:Nat}(h:i<l.length)(hl:letter l[i]=false):l.all letter=false:=by
 rw[List.all_eq_false];exact⟨l[i],List.getElem_mem h,by simp[hl]⟩
theorem Wn(s:ByteArray)(w:World):aC prog 196 [.string s] w fun v w'=>v=.bool (mP s)∧w'=w:=by
 refine aG 28 func196 ?_;refine au ?_;refine ai _ (zo s (by decide+kernel) rfl rfl w) ?_;by_cases h1:s.size<1
 ·refine aU ?_;refine ay func196 rfl ⟨?_,rfl⟩;have:¬1≤s.size:=by omega
  simp[mP,this]
 ·refine aU ?_;refine ai _ (zo s (by decide+kernel) rfl rfl w) ?_;by_cases h2:s.size>8
  ·refine aU ?_;refine ay func196 rfl ⟨?_,rfl⟩;have:¬s.size≤8:=by omega
   simp[mP,this]
  ·refine aU ?_;refine ai _ (zo s (by decide+kernel) rfl rfl w) ?_;refine au ?_;have bw:s.data.toList.length=s.size:=by simp
   refine cP (fun m σ w'=>∃i:Nat,i≤s.size∧m=s.size-i∧σ=[(0,.string s),(13,.int .i64 (s.size:Nat)),(14,.int .i64 (i:Nat))]∧(s.data.toList.take i).all letter=true∧w'=w) s.size _ ?_ ⟨0,by omega,by omega,rfl,by simp,rfl⟩ ?_
   ·exact⟨rfl,rfl,rfl,trivial⟩
   rintro m σ w2 ih⟨i,hi,rfl,rfl,kJ,rfl⟩;by_cases az:i<s.size
   ·refine aU ?_;have eJ:=O9 az;have hs:=Tf (l:=s.data.toList) (i:=i) (by omega);have hf:=Ta (l:=s.data.toList) (i:=i) (by omega);generalize s.data.toList[i]'(by omega)=c at*
    refine ai _ (Dt s i c (by decide+kernel) rfl rfl rfl rfl eJ w2) ?_;by_cases h3:c.toNat<97
    ·refine aU ?_;refine ay func196 rfl ⟨?_,rfl⟩;rw[mP,hf (by simp[letter];omega)];rfl
    ·refine aU ?_;refine ai _ (Dt s i c (by decide+kernel) rfl rfl rfl rfl eJ w2) ?_;by_cases h4:c.toNat>122
     ·refine aU ?_;refine ay func196 rfl ⟨?_,rfl⟩;rw[mP,hf (by simp[letter];omega)];rfl
     ·refine aU ?_;refine nM ((i+1:Nat):Int) ?_;refine au ?_;refine bj ?_ (ih (s.size-(i+1)) [(0,.string s),(13,.int .i64 (s.size:Nat)),(14,.int .i64 ((i+1:Nat):Int))] w2 (by omega) ⟨i+1,by omega,rfl,rfl,?_,rfl⟩)
      ·exact⟨rfl,rfl,rfl,trivial⟩
      ·rw[hs,kJ];simp[letter];omega
   ·refine aU ?_;refine ay func196 rfl ⟨?_,rfl⟩;rw[List.take_of_length_le (by omega)]at kJ;have e1:1≤s.size:=by omega
    have e2:s.size≤8:=by omega
    simp only[mP,kJ,e1,e2,decide_true,Bool.and_self]
theorem Wp(op v n:Int)(l:List ET):j3 (.mk op v n l)=(decide (op=0)&&decide (v=0)&&decide (n=0)&&decide (l.length=0)):=by
 cases l with
 |nil=>simp only[j3,List.isEmpty,List.length,decide_true,Bool.and_true];rfl
 |cons x r=>simp[j3]
theorem UA{F:Nat→Prop}{w:World}{cs:List Value}{t:ET}(h:dY F w cs t):aC prog 222 [.agg cs.toArray] w fun v w'=>v=.bool (j3 t)∧ae [] w w':=by
 obtain⟨op,v,n,l⟩:=t;obtain⟨lv,rfl,hl⟩:=h.inv;obtain⟨a,cap,rfl⟩:=hl.form;refine aG 22 func222 ?_;refine au ?_;refine aj (qG [.int .i64 op,.int .i64 v,.int .i64 n,.slice a l.length cap] rfl rfl rfl ?_);have bX:ae [] w (w.alloc (.cells [.int .i64 op,.int .i64 v,.int .i64 n,.slice a l.length cap].toArray 141)):=(ae.refl _ _).alloc _;have gI:ak (w.alloc (.cells [.int .i64 op,.int .i64 v,.int .i64 n,.slice a l.length cap].toArray 141)) w.heap.size [.int .i64 op,.int .i64 v,.int .i64 n,.slice a l.length cap] 141:=ak.new _ _ _;generalize(w.alloc (.cells [.int .i64 op,.int .i64 v,.int .i64 n,.slice a l.length cap].toArray 141))=w1 at*;generalize w.heap.size=b at*;rw[Wp];by_cases h1:op=0
 ·by_cases h2:v=0
  ·by_cases h3:n=0
   ·by_cases h4:l.length=0
    ·refine aU ?_;exact ay func222 rfl ⟨by simp[h1,h2,h3,h4],bX⟩
    ·refine aU ?_;exact ay func222 rfl ⟨by simp[h1,h2,h3,h4],bX⟩
   ·refine aU ?_;exact ay func222 rfl ⟨by simp[h1,h2,h3],bX⟩
  ·refine aU ?_;exact ay func222 rfl ⟨by simp[h1,h2],bX⟩
 ·refine aU ?_;exact ay func222 rfl ⟨by simp[h1],bX⟩
def qN(op:Int):Bool:=decide (0≤partsOf op)
def wI(op n:Int)(len:Nat):Bool:=decide ((len:Int)=partsOf op)&&(op==1||n==0)
def qb(op:Int):Bool:=op==2||op==3
def lx(op:Int):Bool:=decide (1≤op)&&decide (op≤7)
def sN(op:Int)(e f:ET)(lb lo:Nat):Bool:=(((dw op||j3 e)&&(cY op||j3 f))&&(mn op||(lb:Int)==0))&&(lz op||(lo:Int)==0)
def oM(nv k:Nat)(deep:Int)(known fits named:Bool)(v:Int):Int:=
 if deep>12 then 4 else if k+1>150 then 3 else if known=false then 2 else if fits=false then 5 else nR nv v named
theorem A8{nv k:Nat}{deep:Int}{a b c:Bool}{v:Int}(h:oM nv k deep a b c v=0):k+1≤150∧deep≤12:=by
 unfold oM at h;split at h
 ·cases h
 ·split at h
  ·cases h
  ·omega
theorem agc(nv:Nat)(op v n:Int)(len:Nat):wU nv op v n len=if qN op=false then 2 else if wI op n len=false then 5 else nR nv v (qb op):=by
 unfold wU qN wI qb;by_cases h1:partsOf op<0
 ·have:¬0≤partsOf op:=by omega
  simp[h1,this]
 ·have ru:0≤partsOf op:=by omega
  simp only[h1,if_false,ru,decide_true,Bool.true_eq_false];by_cases h2:(len:Int)=partsOf op
  ·by_cases h3:op=1
   ·simp[h2,h3]
   ·by_cases h4:n=0
    ·simp[h2,h3,h4]
    ·simp[h2,h3,h4]
  ·have EZ:partsOf op≠(len:Int):=fun h=>h2 h.symm;simp[h2,EZ]
theorem agd(nv:Nat)(op v:Int)(e f:ET)(lb lo:Nat):wV nv op v e f lb lo=if lx op=false then 2 else if sN op e f lb lo=false then 5 else nR nv v (iA op):=by
 unfold wV lx sN;by_cases h1:op<1∨op>7
 ·rw[if_pos h1,if_pos];simp;omega
 ·have hk:(decide (1≤op)&&decide (op≤7))=true:=by simp;omega
  rw[if_neg h1,hk];simp only[Bool.true_eq_false,if_false];have e1:((lb:Int)==0)=!decide (0<lb):=by rw[Bool.eq_iff_iff];simp
  have e2:((lo:Int)==0)=!decide (0<lo):=by rw[Bool.eq_iff_iff];simp
  rw[e1,e2];cases dw op<;>cases j3 e<;>cases cY op<;>cases j3 f<;>cases mn op<;>cases decide (0<lb)<;>cases lz op<;>cases decide (0<lo)<;>rfl
theorem FQ(nv deep k:Nat)(op v n:Int)(l:List ET):gO nv (.mk op v n l) deep k=if oM nv k deep (qN op) (wI op n l.length) (qb op) v≠0 then .error (oM nv k deep (qN op) (wI op n l.length) (qb op) v)else eY nv l (deep+1) (k+1):=by
 simp only[gO,wK,oM];by_cases h1:deep>12
 ·have ru:(deep:Int)>12:=by omega
  simp[h1,ru,fC]
 ·have ru:¬(deep:Int)>12:=by omega
  by_cases h2:k+1>150
  ·simp only[h1,ru,h2,if_true,if_false,fC];rfl
  ·simp only[h1,ru,h2,if_false,fC,agc]
theorem FT(nv deep k:Nat)(op v:Int)(e f:ET)(b o:List ST):kM nv (.mk op v e f b o) deep k=if oM nv k deep (lx op) (sN op e f b.length o.length) (iA op) v≠0 then .error (oM nv k deep (lx op) (sN op e f b.length o.length) (iA op) v)else fC (if dw op then gO nv e (deep+1) (k+1)else .ok (k+1)) fun k2=>fC (if cY op then gO nv f (deep+1) k2 else .ok k2) fun k3=>fC (dI nv b (deep+1) k3) fun k4=>dI nv o (deep+1) k4:=by
 simp only[kM,wK,oM];by_cases h1:deep>12
 ·have ru:(deep:Int)>12:=by omega
  simp[h1,ru,fC]
 ·have ru:¬(deep:Int)>12:=by omega
  by_cases h2:k+1>150
  ·simp only[h1,ru,h2,if_true,if_false,fC];rfl
  ·simp only[h1,ru,h2,if_false,fC,agd]
def yX(op:Int)(e f:ET):List ET:=(if dw op then[e]else[])++(if cY op then[f]else[])
theorem Nb(x:Except Int Nat)(f g:Nat→Except Int Nat):fC (fC x f) g=fC x fun k=>fC (f k) g:=by cases x<;>rfl
theorem age(k:Nat)(f:Nat→Except Int Nat):fC (.ok k) f=f k:=rfl
theorem Ob(x:Except Int Nat):fC x (fun k=>.ok k)=x:=by cases x<;>rfl
theorem agf(nv:Nat)(op:Int)(e f:ET)(d k:Nat):eY nv (yX op e f) d k=fC (if dw op then gO nv e d k else .ok k) fun k2=>if cY op then gO nv f d k2 else .ok k2:=by
 unfold yX;cases dw op<;>cases cY op<;>simp[eY,age,Ob]
theorem UC(nv deep k:Nat)(op v:Int)(e f:ET)(b o:List ST)(h:oM nv k deep (lx op) (sN op e f b.length o.length) (iA op) v=0):kM nv (.mk op v e f b o) deep k=fC (eY nv (yX op e f) (deep+1) (k+1)) fun k3=>fC (dI nv b (deep+1) k3) fun k4=>dI nv o (deep+1) k4:=by
 rw[FT,if_neg (by simp[h]),agf,Nb]
theorem M1(nv:Nat):∀(a b:List ET) (d k:Nat),eY nv (a++b) d k=fC (eY nv a d k) fun k1=>eY nv b d k1
 |[],b,d,k=>by simp[eY,fC]
 |t::r,b,d,k=>by
  simp only[List.cons_append,eY,Nb];congr 1;funext k1;exact M1 nv r b d k1
theorem M3(nv:Nat):∀(a b:List ST) (d k:Nat),dI nv (a++b) d k=fC (dI nv a d k) fun k1=>dI nv b d k1
 |[],b,d,k=>by simp[dI,fC]
 |t::r,b,d,k=>by
  simp only[List.cons_append,dI,Nb];congr 1;funext k1;exact M3 nv r b d k1
theorem Wt{nv d k ki i:Nat}{l:List ET}{t:ET}(ht:l[i]?=some t)(h:eY nv (l.take i) d k=.ok ki):eY nv (l.take (i+1)) d k=gO nv t d ki∧∀c,gO nv t d ki=.error c→eY nv l d k=.error c:=by
 obtain⟨az,e⟩:=List.getElem?_eq_some_iff.1 ht;refine⟨?_,fun c hc=>?_⟩
 ·rw[List.take_succ_eq_append_getElem az,M1,h,e];simp only[fC,eY];exact Ob _
 ·have:l=l.take i++t::l.drop (i+1):=by rw[←e,←List.drop_eq_getElem_cons az,List.take_append_drop]
  rw[this,M1,h];simp only[fC,eY,hc]
theorem Wu{nv d k ki i:Nat}{l:List ST}{t:ST}(ht:l[i]?=some t)(h:dI nv (l.take i) d k=.ok ki):dI nv (l.take (i+1)) d k=kM nv t d ki∧∀c,kM nv t d ki=.error c→dI nv l d k=.error c:=by
 obtain⟨az,e⟩:=List.getElem?_eq_some_iff.1 ht;refine⟨?_,fun c hc=>?_⟩
 ·rw[List.take_succ_eq_append_getElem az,M3,h,e];simp only[fC,dI];exact Ob _
 ·have:l=l.take i++t::l.drop (i+1):=by rw[←e,←List.drop_eq_getElem_cons az,List.take_append_drop]
  rw[this,M3,h];simp only[fC,dI,hc]
def Mc(f:Nat→Except Int Nat):Prop:=∀k k',k≤150→f k=.ok k'→k'≤150
mutual
theorem akY(nv:Nat):∀t d,Mc (gO nv t d)
 | .mk op v n l,d=>fun k k' hk h=>by
  rw[FQ]at h;split at h
  ·cases h
  ·rename_i hz
   have:=(A8 (by simpa using hz)).1;exact Gh nv l (d+1) (k+1) k' this h
theorem Gh(nv:Nat):∀l d,Mc (eY nv l d)
 |[],d=>fun k k' hk h=>by
  simp only[eY]at h;injection h with h;omega
 |t::r,d=>fun k k' hk h=>by
  simp only[eY]at h;obtain⟨k1,h1,h2⟩:=oG h;exact Gh nv r d k1 k' (akY nv t d k k1 hk h1) h2
end
mutual
theorem akZ(nv:Nat):∀t d,Mc (kM nv t d)
 | .mk op v e f b o,d=>fun k k' hk h=>by
  by_cases hz:oM nv k d (lx op) (sN op e f b.length o.length) (iA op) v=0
  ·rw[UC _ _ _ _ _ _ _ _ _ hz]at h;obtain⟨k1,h1,h2⟩:=oG h;obtain⟨k2,h3,h4⟩:=oG h2;have:=(A8 hz).1;exact Gi nv o (d+1) k2 k' (Gi nv b (d+1) k1 k2 (Gh nv _ (d+1) (k+1) k1 this h1) h3) h4
  ·rw[FT,if_pos hz]at h;cases h
theorem Gi(nv:Nat):∀l d,Mc (dI nv l d)
 |[],d=>fun k k' hk h=>by
  simp only[dI]at h;injection h with h;omega
 |t::r,d=>fun k k' hk h=>by
  simp only[dI]at h;obtain⟨k1,h1,h2⟩:=oG h;exact Gi nv r d k1 k' (akZ nv t d k k1 hk h1) h2
end
def sM(deep:Int)(known fits named:Bool)(v:Int):List Value:=[.int .i64 deep,.bool known,.bool fits,.bool named,.int .i64 v]
def PF:List Value:=sM 0 false false false 0
theorem Vl:((prog.info? 243).bind (·.zero)).map (·.cells)=some PF.toArray:=by kernel_rfl
theorem UB(d:Int)(a b c:Bool)(v:Int):prog.built 243 [(0,.int .i64 d),(1,.bool a),(2,.bool b),(3,.bool c),(4,.int .i64 v)]=some (sM d a b c v).toArray:=by kernel_rfl
theorem Wq(d:Int)(a b c:Bool)(v:Int):∀u∈sM d a b c v,u.oneCell'=true:=by
 intro u hu;simp[sM]at hu;rcases hu with rfl|rfl|rfl|rfl|rfl<;>rfl
theorem adp{F:Nat→Prop}{w:World}{op v n:Int}{l:List ET}{lv:Value}(hl:lQ F w lv l)(deep:Int):aC prog 223 [.agg #[.int .i64 op,.int .i64 v,.int .i64 n,lv],.int .i64 deep] w fun r w'=>r=.agg (sM deep (qN op) (wI op n l.length) (qb op) v).toArray∧ae [] w w':=by
 obtain⟨a,cap,rfl⟩:=hl.form;refine aG 38 func223 ?_;refine au ?_;refine aj (bY [.int .i64 op,.int .i64 v,.int .i64 n,.slice a l.length cap] rfl ?_);intro w1 b hb bt ah aM;refine aj (bO _ rfl Vl ?_);intro w2 c hc cE an o0;have aX:=an.af aM (by simp);refine au ?_;refine bC (fun w'=>ae [] w2 w'∧ak w' b [.int .i64 op,.int .i64 v,.int .i64 n,.slice a l.length cap] 141) [33] bE ?_;have hS:ae [] w2 w2.drew∧ak w2.drew b [.int .i64 op,.int .i64 v,.int .i64 n,.slice a l.length cap] 141:=⟨(ae.refl _ _).drew,aX.drew⟩;have Au:ae [] w w2.drew:=(ah.tr an).drew;have Av:=o0.drew;have bw:w.heap.size≤c:=by have:=ah.size;omega
 generalize w2.drew=w3 at*;have hlen:(l.length:Int)=partsOf op∨(l.length:Int)≠partsOf op:=by omega
 have hp:op=1∨op=2∨(op≠1∧op≠2):=by omega
 clear ah an aM o0 aX;rcases hp with hp|hp|hp<;>rcases hlen with hlen|hlen
 all_goals
  refine dp 0 ?_;refine dp 1 ?_;refine dp 2 ?_;refine dp 4 ?_;refine dp 5 ?_;refine dp 6 ?_;refine dp 7 ?_;refine dp 8 ?_;refine dp 9 ?_;refine dp 22 ?_;refine dp 23 ?_;refine dp 24 ?_;refine dp 30 ?_;refine dp 31 ?_;refine a8 3 rfl (aV rfl ((NT op w3).mono ?_));rintro v4 w4⟨rfl,rfl⟩;refine⟨fun _=>hS,?_⟩;refine bD 4 _ rfl (fun w=>bP _ _ _ _ rfl (by rfl) w) ?_;refine a8 10 rfl (aV rfl ((NT op _).mono ?_));rintro v5 w5⟨rfl,rfl⟩;refine⟨fun _=>hS,?_⟩;refine dp 11 ?_;refine dp 12 ?_;refine dp 13 ?_;refine dp 14 ?_;refine dp 15 ?_;refine dp 16 ?_;refine dp 17 ?_;refine dp 18 ?_
  try (refine bD 19 _ rfl (fun w=>bP _ _ _ _ rfl (by rfl) w) ?_)
  refine dp 19 ?_;refine dp 20 ?_;refine dp 21 ?_;refine dp 25 ?_;refine dp 26 ?_;refine dp 27 ?_
  try (refine bD 28 _ rfl (fun w=>bP _ _ _ _ rfl (by rfl) w) ?_)
  refine dp 28 ?_;refine dp 29 ?_;refine bD 32 _ rfl (fun w=>bL _ rfl rfl (UB _ _ _ _ _) w) ?_;refine a8 33 rfl (aH _ rfl (by kernel_rfl) Av (by simp[sM,PF]) (Wq _ _ _ _ _) ?_);intro w6 iI aD om;refine⟨fun h=>absurd h (by simp),?_⟩;refine bm ?_;rw[bs (by rfl)]at om;refine df func223 (.inr (.inr (.inl ⟨_,_,_,rfl,rfl,cV hT om rfl⟩))) ⟨?_,Au.aO aD bw⟩;congr 2
  first
   |(subst hp;simp[sM,qN,wI,qb,hlen];done)
   |(simp[sM,qN,wI,qb,hp,hlen];done)
theorem adq{F:Nat→Prop}{w:World}{op v:Int}{e f:ET}{lb lo:List ST}{ce cf:List Value}{bv ov:Value}(hF:In F w)(he:dY F w ce e)(hf:dY F w cf f)(hb:eM F w bv lb)(ho:eM F w ov lo)(deep:Int):aC prog 199 [.agg (ep op v ce cf bv ov).toArray,.int .i64 deep] w fun r w'=>r=.agg (sM deep (lx op) (sN op e f lb.length lo.length) (iA op) v).toArray∧ae [] w w':=by
 obtain⟨e0,e1,e2,e3,rfl⟩:=jl he.length;obtain⟨f0,f1,f2,f3,rfl⟩:=jl hf.length;obtain⟨ab,bh,rfl⟩:=hb.form;obtain⟨ao,lD,rfl⟩:=ho.form;refine aG 64 func199 ?_;refine au ?_;refine aj (bY [.int .i64 op,.int .i64 v,e0,e1,e2,e3,f0,f1,f2,f3,.slice ab lb.length bh,.slice ao lo.length lD] rfl ?_);intro w1 b gI bt ah aM;refine aj (bO _ rfl Vl ?_);intro w2 c hc cE an o0;have aX:=an.af aM (by simp);refine lB aX ?_;obtain⟨be,lq⟩:∃x,x=dw op:=⟨_,rfl⟩;obtain⟨bf,qv⟩:∃x,x=cY op:=⟨_,rfl⟩;obtain⟨bb,jt⟩:∃x,x=mn op:=⟨_,rfl⟩;obtain⟨bo,yW⟩:∃x,x=lz op:=⟨_,rfl⟩;have uZ:sN op e f lb.length lo.length=((((be||j3 e)&&(bf||j3 f))&&(bb||(lb.length:Int)==0))&&(bo||(lo.length:Int)==0)):=by rw[lq,qv,jt,yW];rfl
 have hR:=Gf op w2;simp only[B4,←lq,←qv,←jt,←yW]at hR;refine aj (aV rfl (hR.mono ?_));rintro v3 w3⟨rfl,rfl⟩;refine au ?_;refine bC (fun w'=>ae [] w3 w'∧ak w' b [.int .i64 op,.int .i64 v,e0,e1,e2,e3,f0,f1,f2,f3,.slice ab lb.length bh,.slice ao lo.length lD] 143) [45] bE ?_;have hS:ae [] w3 w3.drew∧ak w3.drew b [.int .i64 op,.int .i64 v,e0,e1,e2,e3,f0,f1,f2,f3,.slice ab lb.length bh,.slice ao lo.length lD] 143:=⟨(ae.refl _ _).drew,aX.drew⟩;have Au:ae [] w w3:=ah.tr an;have bw:w.heap.size≤c:=by have:=ah.size;omega
 have gU:=he.keep Au hF.stays;have ju:=hf.keep Au hF.stays;have L8:=hF.keep Au;generalize w3.drew=w4 at*;clear ah an aM aX hR lq qv jt yW;rw[uZ];clear uZ;refine yb 2 17592186044415 (fun σ' w'=>∃kn x:Bool,kn=lx op∧x=((((be||j3 e)&&(bf||j3 f))&&(bb||(lb.length:Int)==0))&&(bo||(lo.length:Int)==0))∧(ae [] w3 w'∧ak w' b [.int .i64 op,.int .i64 v,e0,e1,e2,e3,f0,f1,f2,f3,.slice ab lb.length bh,.slice ao lo.length lD] 143)∧Sub ([(2,.pointer (some ⟨b,0,none⟩)),(4,.pointer (some ⟨c,0,none⟩)),(6,.bool bf),(8,.bool bb),(9,.bool bo),(19,.int .i64 deep),(27,.bool kn),(60,.bool (iA op)),(62,.int .i64 v),(59,.bool x)]) σ') ?_ ?_
 ·rintro σ' w5⟨kn,x,rfl,hx,hS,bH⟩;refine yg bH ?_;subst hx;refine bD 44 _ rfl (fun w=>bL _ rfl rfl (UB _ _ _ _ _) w) ?_;refine a8 45 rfl (aH _ rfl (by kernel_rfl) (hS.1.af o0 (by simp)) (by simp[sM,PF]) (Wq _ _ _ _ _) ?_);intro w6 iI aD om;refine⟨fun h=>absurd h (by simp),?_⟩;refine bm ?_;rw[bs (by rfl)]at om;exact df func199 (.inr (.inr (.inl ⟨_,_,_,rfl,rfl,cV hT om rfl⟩))) ⟨rfl,(Au.tr hS.1).aO aD bw⟩
 intro K9;refine yb 10 15401752723455 (fun σ' w'=>∃kn x:Bool,kn=lx op∧x=(((be||j3 e)&&(bf||j3 f))&&(bb||(lb.length:Int)==0))∧(ae [] w3 w'∧ak w' b [.int .i64 op,.int .i64 v,e0,e1,e2,e3,f0,f1,f2,f3,.slice ab lb.length bh,.slice ao lo.length lD] 143)∧Sub ([(2,.pointer (some ⟨b,0,none⟩)),(4,.pointer (some ⟨c,0,none⟩)),(6,.bool bf),(8,.bool bb),(9,.bool bo),(19,.int .i64 deep),(27,.bool kn),(60,.bool (iA op)),(62,.int .i64 v),(51,.bool x)]) σ') ?_ ?_
 ·rintro σ' w5⟨kn,x,rfl,hx,hS,bH⟩;refine yg bH ?_;cases x with
  |false=>
   refine eW 33 ?_;refine eW 34 ?_;refine eW 35 ?_;refine eW 36 ?_;refine eW 37 ?_;refine eW 38 ?_;refine eW 39 ?_;refine tk 40 ?_;exact K9 _ _ ⟨_,_,rfl,by simp[←hx],hS,rfl,rfl,rfl,rfl,rfl,rfl,rfl,rfl,rfl,rfl,trivial⟩
  | true=>
   refine tk 33 ?_;refine tk 34 ?_;cases bo with
   |true=>
    refine eW 35 ?_;refine eW 36 ?_;refine eW 37 ?_;refine eW 38 ?_;refine tk 39 ?_;refine tk 40 ?_;exact K9 _ _ ⟨_,_,rfl,by simp[←hx],hS,rfl,rfl,rfl,rfl,rfl,rfl,rfl,rfl,rfl,rfl,trivial⟩
   |false=>
    refine tk 35 ?_;refine aI 36 _ rfl (fun w9 aq=>aB rfl (ak.cell aq.2 (by rfl))) hS ?_;refine tk 37 ?_;refine bD 38 _ rfl (fun w=>bP _ _ _ _ rfl (by rfl) w) ?_;refine tk 39 ?_;refine tk 40 ?_;exact K9 _ _ ⟨_,_,rfl,by simp[←hx],hS,rfl,rfl,rfl,rfl,rfl,rfl,rfl,rfl,rfl,rfl,trivial⟩
 intro B6;clear K9;refine yb 19 15393179566079 (fun σ' w'=>∃kn x:Bool,kn=lx op∧x=((be||j3 e)&&(bf||j3 f))∧(ae [] w3 w'∧ak w' b [.int .i64 op,.int .i64 v,e0,e1,e2,e3,f0,f1,f2,f3,.slice ab lb.length bh,.slice ao lo.length lD] 143)∧Sub ([(2,.pointer (some ⟨b,0,none⟩)),(4,.pointer (some ⟨c,0,none⟩)),(6,.bool bf),(8,.bool bb),(9,.bool bo),(19,.int .i64 deep),(27,.bool kn),(60,.bool (iA op)),(62,.int .i64 v),(42,.bool x)]) σ') ?_ ?_
 ·rintro σ' w5⟨kn,x,rfl,hx,hS,bH⟩;refine yg bH ?_;cases x with
  |false=>
   refine eW 24 ?_;refine eW 25 ?_;refine eW 26 ?_;refine eW 27 ?_;refine eW 28 ?_;refine eW 29 ?_;refine eW 30 ?_;refine tk 31 ?_;refine tk 32 ?_;exact B6 _ _ ⟨_,_,rfl,by simp[←hx],hS,rfl,rfl,rfl,rfl,rfl,rfl,rfl,rfl,rfl,rfl,trivial⟩
  | true=>
   refine tk 24 ?_;refine tk 25 ?_;cases bb with
   |true=>
    refine eW 26 ?_;refine eW 27 ?_;refine eW 28 ?_;refine eW 29 ?_;refine tk 30 ?_;refine tk 31 ?_;refine tk 32 ?_;exact B6 _ _ ⟨_,_,rfl,by simp[←hx],hS,rfl,rfl,rfl,rfl,rfl,rfl,rfl,rfl,rfl,rfl,trivial⟩
   |false=>
    refine tk 26 ?_;refine aI 27 _ rfl (fun w9 aq=>aB rfl (ak.cell aq.2 (by rfl))) hS ?_;refine tk 28 ?_;refine bD 29 _ rfl (fun w=>bP _ _ _ _ rfl (by rfl) w) ?_;refine tk 30 ?_;refine tk 31 ?_;refine tk 32 ?_;exact B6 _ _ ⟨_,_,rfl,by simp[←hx],hS,rfl,rfl,rfl,rfl,rfl,rfl,rfl,rfl,rfl,rfl,trivial⟩
 intro nS;clear B6;refine yb 27 15393162854399 (fun σ' w'=>∃kn x:Bool,kn=lx op∧x=(be||j3 e)∧(ae [] w3 w'∧ak w' b [.int .i64 op,.int .i64 v,e0,e1,e2,e3,f0,f1,f2,f3,.slice ab lb.length bh,.slice ao lo.length lD] 143)∧Sub ([(2,.pointer (some ⟨b,0,none⟩)),(4,.pointer (some ⟨c,0,none⟩)),(6,.bool bf),(8,.bool bb),(9,.bool bo),(19,.int .i64 deep),(27,.bool kn),(60,.bool (iA op)),(62,.int .i64 v),(34,.bool x)]) σ') ?_ ?_
 ·rintro σ' w5⟨kn,x,rfl,hx,hS,bH⟩;refine yg bH ?_;cases x with
  |false=>
   refine eW 16 ?_;refine eW 17 ?_;refine eW 18 ?_;refine eW 19 ?_;refine eW 20 ?_;refine eW 21 ?_;refine tk 22 ?_;refine tk 23 ?_;exact nS _ _ ⟨_,_,rfl,by simp[←hx],hS,rfl,rfl,rfl,rfl,rfl,rfl,rfl,rfl,rfl,rfl,trivial⟩
  | true=>
   refine tk 16 ?_;refine tk 17 ?_;cases bf with
   |true=>
    refine eW 18 ?_;refine eW 19 ?_;refine eW 20 ?_;refine tk 21 ?_;refine tk 22 ?_;refine tk 23 ?_;exact nS _ _ ⟨_,_,rfl,by simp[←hx],hS,rfl,rfl,rfl,rfl,rfl,rfl,rfl,rfl,rfl,rfl,trivial⟩
   |false=>
    refine tk 18 ?_;refine aI 19 _ rfl (fun w9 aq=>bF [f0,f1,f2,f3] rfl (ak.range aq.2 (by rfl))) hS ?_;refine a8 20 rfl (aV rfl ((UA (ju.keep hS.1 L8.stays)).mono ?_));rintro v6 w6⟨rfl,aD⟩;replace hS:=And.intro (hS.1.tr aD) (aD.af hS.2 (by simp));refine⟨fun _=>hS,?_⟩;refine tk 21 ?_;refine tk 22 ?_;refine tk 23 ?_;exact nS _ _ ⟨_,_,rfl,by simp[←hx],hS,rfl,rfl,rfl,rfl,rfl,rfl,rfl,rfl,rfl,rfl,trivial⟩
 intro dy;clear nS;refine yb 34 15393162789375 (fun σ' w'=>∃kn x:Bool,kn=lx op∧x=(true)∧(ae [] w3 w'∧ak w' b [.int .i64 op,.int .i64 v,e0,e1,e2,e3,f0,f1,f2,f3,.slice ab lb.length bh,.slice ao lo.length lD] 143)∧Sub ([(2,.pointer (some ⟨b,0,none⟩)),(4,.pointer (some ⟨c,0,none⟩)),(6,.bool bf),(8,.bool bb),(9,.bool bo),(19,.int .i64 deep),(27,.bool kn),(60,.bool (iA op)),(62,.int .i64 v),(5,.bool be)]) σ') ?_ ?_
 ·rintro σ' w5⟨kn,x,rfl,hx,hS,bH⟩;refine yg bH ?_;refine tk 9 ?_;refine tk 10 ?_;cases be with
  |true=>
   refine eW 11 ?_;refine eW 12 ?_;refine eW 13 ?_;refine tk 14 ?_;refine tk 15 ?_;exact dy _ _ ⟨_,_,rfl,rfl,hS,rfl,rfl,rfl,rfl,rfl,rfl,rfl,rfl,rfl,rfl,trivial⟩
  |false=>
   refine tk 11 ?_;refine aI 12 _ rfl (fun w9 aq=>bF [e0,e1,e2,e3] rfl (ak.range aq.2 (by rfl))) hS ?_;refine a8 13 rfl (aV rfl ((UA (gU.keep hS.1 L8.stays)).mono ?_));rintro v6 w6⟨rfl,aD⟩;replace hS:=And.intro (hS.1.tr aD) (aD.af hS.2 (by simp));refine⟨fun _=>hS,?_⟩;refine tk 14 ?_;refine tk 15 ?_;exact dy _ _ ⟨_,_,rfl,rfl,hS,rfl,rfl,rfl,rfl,rfl,rfl,rfl,rfl,rfl,rfl,trivial⟩
 intro ZV;clear dy;refine tk 0 ?_;refine tk 1 ?_;refine aI 2 _ rfl (fun w9 aq=>aB rfl (ak.cell aq.2 (by rfl))) hS ?_;refine tk 41 ?_;refine tk 42 ?_;refine aI 43 _ rfl (fun w9 aq=>aB rfl (ak.cell aq.2 (by rfl))) hS ?_;by_cases h1:op≥1
 ·refine yN 3 ?_;refine tk 4 ?_;refine tk 5 ?_;refine aI 6 _ rfl (fun w9 aq=>aB rfl (ak.cell aq.2 (by rfl))) hS ?_;refine bD 7 _ rfl (fun w=>bP _ _ _ _ rfl (by rfl) w) ?_;refine tk 8 ?_;exact ZV _ _ ⟨_,true,by simp[lx];omega,rfl,hS,rfl,rfl,rfl,rfl,rfl,rfl,rfl,rfl,rfl,rfl,trivial⟩
 ·refine yO 3 ?_;refine tk 4 ?_;refine eW 5 ?_;refine eW 6 ?_;refine eW 7 ?_;refine tk 8 ?_;exact ZV _ _ ⟨_,true,by simp[lx];omega,rfl,hS,rfl,rfl,rfl,rfl,rfl,rfl,rfl,rfl,rfl,rfl,trivial⟩
theorem Oa{w0 w w':World}{e size ln m g:Nat}{v:Value}{xs:List Value}(hk:ae [] w0 w)(ho:Own w w0.heap.size e size v ln xs) (gy:(v.ownBlock=some g∧ln+m≤sK v∧ae [g] w w')∨(g=w.heap.size∧ae [] w w'∧w'.heap.size=w.heap.size+1)):ae [] w0 w':=by
 rcases gy with⟨h1,_,h2⟩|⟨_,h2,_⟩
 ·exact hk.aO h2 (ho.lt g h1).1
 ·exact hk.tr h2
theorem Ns(a b c d:Value):kE prog 139 1 [(0,.agg #[a,b,c,d])]=some (141,#[a,b,c,d]):=by kernel_rfl
theorem ad2{F:Nat→Prop}{w:World}{op v:Int}{e f:ET}{lb lo:List ST}{ce cf:List Value}{bv ov:Value}(hF:In F w)(he:dY F w ce e)(hf:dY F w cf f)(hb:eM F w bv lb)(ho:eM F w ov lo):aC prog 201 [.agg (ep op v ce cf bv ov).toArray] w fun r w'=>(∃F':Nat→Prop,lQ F' w' r (yX op e f)∧∀k,F' k→k<w'.heap.size∧(F k∨w.heap.size≤k))∧ae [] w w':=by
 obtain⟨e0,e1,e2,e3,rfl⟩:=jl he.length;obtain⟨f0,f1,f2,f3,rfl⟩:=jl hf.length;obtain⟨ab,bh,rfl⟩:=hb.form;obtain⟨ao,lD,rfl⟩:=ho.form;have oe:=he.one;have of:=hf.one;refine aG 31 func201 ?_;refine au ?_;refine aj (bY [.int .i64 op,.int .i64 v,e0,e1,e2,e3,f0,f1,f2,f3,.slice ab lb.length bh,.slice ao lo.length lD] rfl ?_);intro w1 b gI bt ah aM;refine lB aM ?_;obtain⟨be,lq⟩:∃x,x=dw op:=⟨_,rfl⟩;obtain⟨bf,qv⟩:∃x,x=cY op:=⟨_,rfl⟩;have hR:=Gf op w1;simp only[B4,←lq,←qv]at hR;refine aj (aV rfl (hR.mono ?_));rintro v3 w3⟨rfl,rfl⟩;unfold yX;rw[←lq,←qv];clear lq qv hR;have Qa:Own w3 w.heap.size 141 4 (.slice none 0 0) ([]:List (List Value)).length ([]:List (List Value)).flatten:=Own.nil _ _ _ _;have fin:∀(rv:Value) (w':World) (c_:List (List Value)) (l:List ET) (hl:c_.length=l.length),Own w' w.heap.size 141 4 rv c_.length c_.flatten→ae [] w w'→(∀i (hi:i<l.length),dY F w (c_.getD i []) (l[i]'hi))→
   (∃F':Nat→Prop,lQ F' w' rv l∧∀k,F' k→k<w'.heap.size∧(F k∨w.heap.size≤k))∧ae [] w w':=by
  intro rv w' c_ l hl bW hk hc;refine⟨⟨_,Tz (F:=F) bW hl fun i hi=>(hc i hi).keep hk hF.stays,?_⟩,hk⟩;rintro k (h|h)
  ·have:=bW.lt k h;exact⟨this.2,.inr this.1⟩
  ·exact⟨Nat.lt_of_lt_of_le (hF k h) hk.size,.inl h⟩
 cases be with
 | false=>
  cases bf with
  |false=>
   refine au ?_;exact ay func201 rfl (fin _ _ [] [] rfl Qa ah (fun i hi=>by simp at hi))
  | true=>
   refine au ?_;refine ai _ (bF [f0,f1,f2,f3] rfl (aM.range (by rfl))) ?_;refine aj (eE _ _ rfl rfl (Ns f0 f1 f2 f3) ?_);intro w4 g4 Aw cz ax cy;have fG:=Qa.keep ax (by simp);refine aj (ja w.heap.size 141 4 48 [] [f0,f1,f2,f3] rfl rfl rfl (by decide+kernel) fG (cy.range (by rfl)) rfl of (by decide) (by decide) (by decide) (ah.tr ax).size ?_);intro g5 u7 w5 oZ K_;have aE:=Oa (ah.tr ax) fG K_;refine au ?_;exact ay func201 rfl (fin _ _ [[f0,f1,f2,f3]] [f] rfl oZ aE (fun i hi=>by
    obtain rfl:i=0:=by simpa using hi
    exact hf))
 | true=>
  refine au ?_;refine ai _ (bF [e0,e1,e2,e3] rfl (aM.range (by rfl))) ?_;refine aj (eE _ _ rfl rfl (Ns e0 e1 e2 e3) ?_);intro w4 g4 Aw cz ax cy;have fG:=Qa.keep ax (by simp);have a_:=ax.af aM (by simp);refine aj (ja w.heap.size 141 4 48 [] [e0,e1,e2,e3] rfl rfl rfl (by decide+kernel) fG (cy.range (by rfl)) rfl oe (by decide) (by decide) (by decide) (ah.tr ax).size ?_);intro g5 u7 w5 oZ K_;have aE:=Oa (ah.tr ax) fG K_;have cr:ak w5 b [.int .i64 op,.int .i64 v,e0,e1,e2,e3,f0,f1,f2,f3,.slice ab lb.length bh,.slice ao lo.length lD] 143:=by
   rcases K_ with⟨h,_⟩|⟨_,h,_⟩
   ·cases h
   ·exact h.af a_ (by simp)
  cases bf with
  | false=>
   refine au ?_;exact ay func201 rfl (fin _ _ [[e0,e1,e2,e3]] [e] rfl oZ aE (fun i hi=>by
    obtain rfl:i=0:=by simpa using hi
    exact he))
  | true=>
   refine au ?_;refine ai _ (bF [f0,f1,f2,f3] rfl (cr.range (by rfl))) ?_;refine aj (eE _ _ rfl rfl (Ns f0 f1 f2 f3) ?_);intro w6 g6 yY iI aD im;have uv:=oZ.keep aD (by simp);refine aj (ja w.heap.size 141 4 48 [e0,e1,e2,e3] [f0,f1,f2,f3] rfl rfl rfl (by decide+kernel) uv (im.range (by rfl)) rfl of (by decide) (by decide) (by decide) (aE.tr aD).size ?_);intro g7 B7 w7 Ap u9;have aN:=Oa (aE.tr aD) uv u9;refine au ?_;exact ay func201 rfl (fin _ _ [[e0,e1,e2,e3],[f0,f1,f2,f3]] [e,f] rfl Ap aN (fun i hi=>by
    match i,hi with
    |0,_=>exact he
    |1,_=>exact hf))
theorem Ws{w:World}{m pb k nv aY:Nat}{av:Option Addr}{bv:Value}(hm:ak w m [.int .i64 (k:Nat)] 3)(hp:ak w pb [.slice av nv aY,bv] 75)(hk:k≤1000)(deep:Int)(kn fi na:Bool)(v:Int):aC prog 168 [.agg (sM deep kn fi na v).toArray,.pointer (some ⟨m,0,none⟩),.pointer (some ⟨pb,0,none⟩)] w fun r w'=>r=.int .i64 (oM nv k deep kn fi na v)∧ak w' m [.int .i64 ((k+1:Nat):Int)] 3∧ae [m] w w':=by
 refine aG 47 func168 ?_;refine au ?_;refine aj (bY (sM deep kn fi na v) rfl ?_);intro w1 b gI bt ah aM;have oo:=ah.af hm (by simp);have l8:=ah.af hp (by simp);refine lB oo ?_;refine nM ((k+1:Nat):Int) ?_;refine aj (aH _ rfl (by kernel_rfl) oo (by simp) (by simp;rfl) ?_);intro w2 cE an yZ;have gT:=an.af l8 (by simp;exact l8.ne oo (by decide));have aX:=an.af aM (by simp;exact aM.ne oo (by decide));rw[bs (by rfl)]at yZ;have Au:ae [m] w w2:=(ae.bG ah).tr an;have lE:ak w2 m [.int .i64 ((k+1:Nat):Int)] 3∧ae [m] w w2:=⟨yZ,Au⟩;clear aM oo l8 ah an hm hp;unfold sM at aX;unfold oM;by_cases h1:deep>12
 ·refine aU ?_;exact ay func168 rfl ⟨by rw[if_pos h1],lE⟩
 rw[if_neg h1];by_cases h2:k+1>150
 ·refine aU ?_;exact ay func168 rfl ⟨by rw[if_pos h2],lE⟩
 rw[if_neg h2];cases kn with
 |false=>
  refine aU ?_;exact ay func168 rfl ⟨rfl,lE⟩
 | true=>
  cases fi with
  |false=>
   refine aU ?_;exact ay func168 rfl ⟨rfl,lE⟩
  | true=>
   cases na with
   | true=>
    by_cases h3:v<0
    ·refine aU ?_;exact ay func168 rfl ⟨by simp[nR,h3],lE⟩
    ·by_cases h4:v≥(nv:Int)
     ·refine aU ?_;exact ay func168 rfl ⟨by simp[nR,h4],lE⟩
     ·refine aU ?_;exact ay func168 rfl ⟨by simp[nR,h3,h4],lE⟩
   | false=>
    by_cases h3:v=0
    ·refine aU ?_;exact ay func168 rfl ⟨by simp[nR,h3],lE⟩
    ·refine aU ?_;exact ay func168 rfl ⟨by simp[nR,h3],lE⟩
def Y_:List Value:=[.int .i64 0,.int .i64 0,.int .i64 0,.slice none 0 0]
def KE:List Value:=[.int .i64 0,.int .i64 0,.int .i64 0,.int .i64 0,.int .i64 0,.slice none 0 0,.int .i64 0,.int .i64 0,.int .i64 0,.slice none 0 0,.slice none 0 0,.slice none 0 0]
theorem af9:((prog.info? 141).bind (·.zero)).map (·.cells)=some Y_.toArray:=by kernel_rfl
theorem Vn:((prog.info? 143).bind (·.zero)).map (·.cells)=some KE.toArray:=by kernel_rfl
structure wJ(w:World)(m pb nv aY k:Nat)(av:Option Addr)(bv:Value):Prop where
 hm:ak w m [.int .i64 (k:Nat)] 3
 hp:ak w pb [.slice av nv aY,bv] 75
theorem wJ.keep{w w':World}{m pb nv aY k:Nat}{av:Option Addr}{bv:Value}(h:wJ w m pb nv aY k av bv)(hk:ae [] w w'):wJ w' m pb nv aY k av bv:=⟨hk.af h.hm (by simp),hk.af h.hp (by simp)⟩
theorem wJ.nT{w w':World}{m pb nv aY k k':Nat}{av:Option Addr}{bv:Value}(h:wJ w m pb nv aY k av bv)(hk:ae [m] w w')(hm:ak w' m [.int .i64 (k':Nat)] 3):wJ w' m pb nv aY k' av bv:=
 ⟨hm,hk.af h.hp (by simp;exact h.hp.ne h.hm (by decide))⟩
theorem xW{F:Nat→Prop}{w:World}{m:Nat}(hF:In F w)(hm:¬F m):oN F w [m]:=fun k hk=>⟨hF k hk,by simp;rintro rfl;exact hm hk⟩
def YI(x:Except Int Nat)(m:Nat)(w:World)(r:Value)(w':World):Prop:=
 r=.int .i64 (tX x)∧(∃k':Nat,ak w' m [.int .i64 (k':Nat)] 3∧∀q,x=.ok q→k'=q)∧ae [m] w w'
theorem ac6{m pb nv aY:Nat}{av:Option Addr}{bv:Value}:∀(s:Nat) (l:List ET),iH l<s→iH l≤300000→∀{F:Nat→Prop} {w:World} {x:Value} (deep k:Nat),lQ F w x l→In F w→¬F m→wJ w m pb nv aY k av bv→deep≤13→k≤150→aC prog 200 [x,.int .i64 (deep:Nat),.func (.func 168) #[] #[.pointer (some ⟨m,0,none⟩),.pointer (some ⟨pb,0,none⟩)]] w (YI (eY nv l deep k) m w):=by
 intro s;induction s with
 |zero=>intro l hl;omega
 | succ s ih=>
  intro l hl yV F w x deep k h hF vC hM D3 hk;obtain⟨a,cap,rfl⟩:=h.form;have hlen:=F4 l;refine aG 33 func200 ?_;refine au ?_;refine cP (fun q σ w'=>∃i ki:Nat,i≤l.length∧q=l.length-i∧σ=[(1,.int .i64 (deep:Nat)),(2,.func (.func 168) #[] #[.pointer (some ⟨m,0,none⟩),.pointer (some ⟨pb,0,none⟩)]),(10,.slice a l.length cap),(11,.int .i64 (l.length:Nat)),(12,.int .i64 (i:Nat))]∧
   eY nv (l.take i) deep k=.ok ki∧wJ w' m pb nv aY ki av bv∧ae [m] w w') l.length _ ?_ ⟨0,k,by omega,by omega,rfl,by simp[eY],hM,ae.refl _ _⟩ ?_
  ·exact⟨rfl,rfl,rfl,rfl,rfl,trivial⟩
  rintro q σ w2 nj⟨i,ki,hi,rfl,rfl,oq,CC,an⟩;have Ah:=Gh nv _ _ k ki hk oq;refine au ?_;by_cases az:i<l.length
  ·refine ye ?_;refine au ?_;have cZ:l[i]?=some l[i]:=List.getElem?_eq_getElem az;have bw:=XK cZ;obtain⟨op,v,n,l',hs⟩:∃op v n l',l[i]=ET.mk op v n l':=by cases l[i];exact⟨_,_,_,_,rfl⟩
   rw[hs]at cZ bw;simp only[fO]at bw;have cR:=Wt cZ oq;rw[FQ]at cR;obtain⟨bb,q,iF,lv,hv,eJ⟩:=(h.keep an (xW hF vC)).akX cZ;cases hv;have dd:=hF.keep an;refine ai _ (bJ i rfl az w2) ?_;refine ai _ (bF [.int .i64 op,.int .i64 v,.int .i64 n,lv] rfl eJ.whole) ?_;refine aj (bO _ rfl af9 ?_);intro w3 c Av cw aw hc;refine aj (aH _ rfl (by kernel_rfl) hc (by simp[Y_]) eJ.expr.one ?_);intro w4 cz ax jJ;rw[bs (by rfl)]at jJ;have eA:ae [] w2 w4:=aw.aO ax (by omega);have L7:=eJ.hl.keep eA dd.stays;have HY:=CC.keep eA;have xv:=dd.keep eA;have pE:ae [m] w w4:=an.tr (ae.bG eA);clear aw ax hc CC an eJ dd;refine au ?_;refine ai _ (bF [.int .i64 op,.int .i64 v,.int .i64 n,lv] rfl (jJ.range (by rfl))) ?_;refine au ?_;refine aj (aV rfl ((adp L7 (deep:Nat)).mono ?_));rintro v5 w5⟨rfl,aE⟩;have vD:=HY.keep aE;refine aj (aV (fst:=[]) (cap:=[.pointer (some ⟨m,0,none⟩),.pointer (some ⟨pb,0,none⟩)]) rfl ((Ws vD.hm vD.hp (by omega) (deep:Nat) (qN op) (wI op n l'.length) (qb op) v).mono ?_));rintro v6 w6⟨rfl,HZ,aD⟩;have Ax:=vD.nT aD HZ;have RO:=(L7.keep aE xv.stays).keep aD (xW (xv.keep aE) vC);have vE:=(xv.keep aE).keep aD;have om:=aD.af (aE.af jJ (by simp)) (by simp;exact(aE.af jJ (by simp)).ne vD.hm (by decide));have ql:ae [m] w w6:=(pE.tr (ae.bG aE)).tr aD;clear aE aD HY vD HZ jJ L7 xv pE eA;refine au ?_;generalize kV:oM nv ki (deep:Nat) (qN op) (wI op n l'.length) (qb op) v=cd at*;by_cases hz:cd=0
   ·have ym:=A8 (kV.trans hz);rw[if_neg (by simp[hz])]at cR;refine ye ?_;refine lB om ?_;refine nM ((deep+1:Nat):Int) ?_;refine au ?_;refine aj (aV rfl ((ih l' (by omega) (by omega) (deep+1) (ki+1) RO vE vC Ax (by omega) (by omega)).mono ?_));rintro v7 w7⟨rfl,⟨k7,L9,RP⟩,aN⟩;have EV:=Ax.nT aN L9;have G1:=ql.tr aN;refine au ?_;cases hx:eY nv l' (deep+1) (ki+1)with
    |error e=>
     have bS:=J2 nv l' (deep+1) (ki+1) e hx;simp only[tX];refine ye ?_;refine au ?_;refine ay func200 rfl ?_;have:=cR.2 e hx;exact⟨by rw[this];rfl,⟨k7,L9,fun q hq=>by rw[this]at hq;cases hq⟩,G1⟩
    | ok k8=>
     simp only[tX];refine aL ?_;refine nM ((i+1:Nat):Int) ?_;refine au ?_;have e8:=RP k8 hx;subst e8;refine bj ?_ (nj (l.length-(i+1)) [(1,.int .i64 (deep:Nat)),(2,.func (.func 168) #[] #[.pointer (some ⟨m,0,none⟩),.pointer (some ⟨pb,0,none⟩)]),(10,.slice (some ⟨bb,q,none⟩) l.length cap),(11,.int .i64 (l.length:Nat)),(12,.int .i64 ((i+1:Nat):Int))] w7 (by omega)
      ⟨i+1,k7,by omega,rfl,rfl,by rw[cR.1,hx],EV,G1⟩)
     exact⟨rfl,rfl,rfl,rfl,rfl,trivial⟩
   ·rw[if_pos hz]at cR;refine aL ?_;refine ye ?_;refine au ?_;refine ay func200 rfl ?_;have:=cR.2 cd rfl;exact⟨by rw[this];rfl,⟨_,Ax.hm,fun q hq=>by rw[this]at hq;cases hq⟩,ql⟩
  ·refine aL ?_;refine au ?_;refine ay func200 rfl ?_;rw[List.take_of_length_le (by omega)]at oq;rw[oq];exact⟨rfl,⟨ki,CC.hm,fun q hq=>by injection hq⟩,an⟩
theorem ac7{m pb nv aY:Nat}{av:Option Addr}{bv:Value}:∀(s:Nat) (l:List ST),cu l<s→cu l≤100000→∀{F:Nat→Prop} {w:World} {x:Value} (deep k:Nat),eM F w x l→In F w→¬F m→wJ w m pb nv aY k av bv→deep≤13→k≤150→aC prog 167 [x,.int .i64 (deep:Nat),.func (.func 168) #[] #[.pointer (some ⟨m,0,none⟩),.pointer (some ⟨pb,0,none⟩)]] w (YI (dI nv l deep k) m w):=by
 intro s;induction s with
 |zero=>intro l hl;omega
 | succ s ih=>
  intro l hl yV F w x deep k h hF vC hM D3 hk;obtain⟨a,cap,rfl⟩:=h.form;have hlen:=DI l;refine aG 49 func167 ?_;refine au ?_;refine cP (fun q σ w'=>∃i ki:Nat,i≤l.length∧q=l.length-i∧σ=[(1,.int .i64 (deep:Nat)),(2,.func (.func 168) #[] #[.pointer (some ⟨m,0,none⟩),.pointer (some ⟨pb,0,none⟩)]),(10,.slice a l.length cap),(11,.int .i64 (l.length:Nat)),(12,.int .i64 (i:Nat))]∧
   dI nv (l.take i) deep k=.ok ki∧wJ w' m pb nv aY ki av bv∧ae [m] w w') l.length _ ?_ ⟨0,k,by omega,by omega,rfl,by simp[dI],hM,ae.refl _ _⟩ ?_
  ·exact⟨rfl,rfl,rfl,rfl,rfl,trivial⟩
  rintro q σ w2 nj⟨i,ki,hi,rfl,rfl,oq,CC,an⟩;have Ah:=Gi nv _ _ k ki hk oq;refine au ?_;by_cases az:i<l.length
  ·refine ye ?_;refine au ?_;have cZ:l[i]?=some l[i]:=List.getElem?_eq_getElem az;have bw:=OF cZ;obtain⟨op,v,e,f,lb,lo,hs⟩:∃op v e f lb lo,l[i]=ST.mk op v e f lb lo:=by cases l[i];exact⟨_,_,_,_,_,_,rfl⟩
   rw[hs]at cZ bw;simp only[ll]at bw;have cR:=Wu cZ oq;obtain⟨bb,q,iF,ce,cf,jf,ov,hv,eJ⟩:=(h.keep an (xW hF vC)).YJ cZ;cases hv;have dd:=hF.keep an;have sg:(ep op v ce cf jf ov).length=12:=by simp[ep,eJ.he.length,eJ.hf.length]
   refine ai _ (bJ i rfl az w2) ?_;refine ai _ (h_ (ep op v ce cf jf ov) hT rfl rfl (by rw[sg];rfl) eJ.whole) ?_;refine aj (bO _ rfl Vn ?_);intro w3 c Av cw aw hc;refine aj (aH _ rfl (by rw[sg];decide+kernel) hc (by rw[sg];decide) eJ.stmt.one ?_);intro w4 cz ax jJ;rw[bs (by rw[sg];rfl)]at jJ;have eA:ae [] w2 w4:=aw.aO ax (by omega);have Ek:=eJ.keep eA dd.stays;have HY:=CC.keep eA;have xv:=dd.keep eA;have pE:ae [m] w w4:=an.tr (ae.bG eA);clear aw ax hc CC an eJ dd;refine au ?_;refine ai _ (h_ (ep op v ce cf jf ov) hT rfl rfl (by rw[sg];rfl) (jJ.range (by simp))) ?_;refine au ?_;refine aj (aV rfl ((adq xv Ek.he Ek.hf Ek.hb Ek.ho (deep:Nat)).mono ?_));rintro v5 w5⟨rfl,aE⟩;have vD:=HY.keep aE;refine aj (aV (fst:=[]) (cap:=[.pointer (some ⟨m,0,none⟩),.pointer (some ⟨pb,0,none⟩)]) rfl ((Ws vD.hm vD.hp (by omega) (deep:Nat) (lx op) (sN op e f lb.length lo.length) (iA op) v).mono ?_));rintro v6 w6⟨rfl,HZ,aD⟩;have Ax:=vD.nT aD HZ;have El:=(Ek.keep aE xv.stays).keep aD (xW (xv.keep aE) vC);have vE:=(xv.keep aE).keep aD;have om:=aD.af (aE.af jJ (by simp)) (by simp;exact(aE.af jJ (by simp)).ne vD.hm (by decide));have ql:ae [m] w w6:=(pE.tr (ae.bG aE)).tr aD;clear aE aD HY vD HZ jJ Ek xv pE eA;refine au ?_;generalize kV:oM nv ki (deep:Nat) (lx op) (sN op e f lb.length lo.length) (iA op) v=cd at*;by_cases hz:cd=0
   ·have ym:=A8 (kV.trans hz);rw[UC _ _ _ _ _ _ _ _ _ (kV.trans hz)]at cR;refine ye ?_;refine au ?_;refine ai _ (h_ (ep op v ce cf jf ov) hT rfl rfl (by rw[sg];rfl) (om.range (by simp))) ?_;refine aj (aV rfl ((ad2 vE El.he El.hf El.hb El.ho).mono ?_));rintro v7 w7⟨⟨F',L_,CD⟩,aN⟩;have EV:=Ax.keep aN;have ZW:=El.keep aN vE.stays;have H0:=vE.keep aN;have vF:=aN.af om (by simp);refine nM ((deep+1:Nat):Int) ?_;refine au ?_;have arD:iH (yX op e f)≤fO e+fO f:=by unfold yX;cases dw op<;>cases cY op<;>simp[iH]
    refine aj (aV rfl ((ac6 _ (yX op e f) (Nat.lt_succ_self _) (by omega) (deep+1) (ki+1) L_ (fun k hk=>(CD k hk).1) (fun h=>(CD m h).2.elim vC fun h=>absurd Ax.hm.lt (by omega)) EV (by omega) (by omega)).mono ?_));rintro v8 w8⟨rfl,⟨k8,EW,Ma⟩,aS⟩;have RQ:=EV.nT aS EW;have Lb:=ZW.keep aS (xW H0 vC);have rq:=H0.keep aS;have EX:=aS.af vF (by simp;exact vF.ne EV.hm (by decide));have ZX:ae [m] w w8:=(ql.tr (ae.bG aN)).tr aS;clear aN aS Ax EV El ZW vE H0 om vF L_ CD ql;refine au ?_;cases hx:eY nv (yX op e f) (deep+1) (ki+1)with
    |error er=>
     have bS:=J2 nv _ (deep+1) (ki+1) er hx;rw[hx]at cR;simp only[tX];refine aL ?_;refine aL ?_;refine ye ?_;refine au ?_;refine ay func167 rfl ?_;have:=cR.2 er rfl;exact⟨by rw[this];rfl,⟨k8,EW,fun q hq=>by rw[this]at hq;cases hq⟩,ZX⟩
    | ok k8'=>
     have e8:=Ma k8' hx;subst e8;have cB:=Gh nv _ _ _ _ (by omega) hx;rw[hx]at cR;simp only[fC]at cR;simp only[tX];refine ye ?_;refine au ?_;refine ai _ (aB rfl (EX.cell (by rw[ep];obtain⟨_,_,_,_,rfl⟩:=jl Lb.he.length;obtain⟨_,_,_,_,rfl⟩:=jl Lb.hf.length;rfl))) ?_;refine nM ((deep+1:Nat):Int) ?_;refine au ?_;refine aj (aV rfl ((ih lb (by omega) (by omega) (deep+1) k8 Lb.hb rq vC RQ (by omega) cB).mono ?_));rintro v9 w9⟨rfl,⟨k9,RR,H2⟩,bg⟩;have hM9:=RQ.nT bg RR;have Qb:=Lb.keep bg (xW rq vC);have y2:=rq.keep bg;have hc9:=bg.af EX (by simp;exact EX.ne RQ.hm (by decide));have ZY:ae [m] w w9:=ZX.tr bg;refine au ?_;cases hy:dI nv lb (deep+1) k8 with
     |error er=>
      have bS:=Bl nv _ (deep+1) k8 er hy;rw[hy]at cR;simp only[tX];refine aL ?_;refine ye ?_;refine au ?_;refine ay func167 rfl ?_;have:=cR.2 er rfl;exact⟨by rw[this];rfl,⟨k9,RR,fun q hq=>by rw[this]at hq;cases hq⟩,ZY⟩
     | ok k9'=>
      have e9:=H2 k9' hy;subst e9;have lX:=Gi nv _ _ _ _ cB hy;rw[hy]at cR;simp only at cR;simp only[tX];refine ye ?_;refine au ?_;refine ai _ (aB rfl (hc9.cell (by rw[ep];obtain⟨_,_,_,_,rfl⟩:=jl Qb.he.length;obtain⟨_,_,_,_,rfl⟩:=jl Qb.hf.length;rfl))) ?_;refine nM ((deep+1:Nat):Int) ?_;refine au ?_;refine aj (aV rfl ((ih lo (by omega) (by omega) (deep+1) k9 Qb.ho y2 vC hM9 (by omega) lX).mono ?_));rintro v10 bM⟨rfl,⟨k10,ZZ,Qc⟩,bV⟩;have am6:=hM9.nT bV ZZ;have Za:ae [m] w bM:=ZY.tr bV;refine au ?_;cases hu:dI nv lo (deep+1) k9 with
      |error er=>
       have bS:=Bl nv _ (deep+1) k9 er hu;simp only[tX];refine ye ?_;refine au ?_;refine ay func167 rfl ?_;have:=cR.2 er hu;exact⟨by rw[this];rfl,⟨k10,ZZ,fun q hq=>by rw[this]at hq;cases hq⟩,Za⟩
      | ok am7=>
       simp only[tX];refine aL ?_;refine nM ((i+1:Nat):Int) ?_;refine au ?_;have vw:=Qc am7 hu;subst vw;refine bj ?_ (nj (l.length-(i+1)) [(1,.int .i64 (deep:Nat)),(2,.func (.func 168) #[] #[.pointer (some ⟨m,0,none⟩),.pointer (some ⟨pb,0,none⟩)]),(10,.slice (some ⟨bb,q,none⟩) l.length cap),(11,.int .i64 (l.length:Nat)),(12,.int .i64 ((i+1:Nat):Int))] bM (by omega)
        ⟨i+1,k10,by omega,rfl,rfl,by rw[cR.1,hu],am6,Za⟩)
       exact⟨rfl,rfl,rfl,rfl,rfl,trivial⟩
   ·rw[FT,kV,if_pos hz]at cR;refine aL ?_;refine aL ?_;refine aL ?_;refine ye ?_;refine au ?_;refine ay func167 rfl ?_;have:=cR.2 cd rfl;exact⟨by rw[this];rfl,⟨_,Ax.hm,fun q hq=>by rw[this]at hq;cases hq⟩,ql⟩
  ·refine aL ?_;refine au ?_;refine ay func167 rfl ?_;rw[List.take_of_length_le (by omega)]at oq;rw[oq];exact⟨rfl,⟨ki,CC.hm,fun q hq=>by injection hq⟩,an⟩
theorem mT.cut{F:Nat→Prop}{w:World}{a:Option Addr}{cap i:Nat}{l:List aJ}(h:mT F w (.slice a l.length cap) l)(hi:i≤l.length):mT F w (.slice a i cap) (l.take i):=by
 obtain⟨a',iF,hv,hc,hr⟩:=h;cases hv;refine⟨a,cap,by rw[List.length_take,Nat.min_eq_left hi],by rw[List.length_take];omega,fun h0=>?_⟩;rw[List.length_take,Nat.min_eq_left hi]at h0;obtain⟨b,q,ha,hF,dD⟩:=hr (by omega);refine⟨b,q,ha,hF,fun j hj=>?_⟩;rw[List.length_take,Nat.min_eq_left hi]at hj;have:=dD j (by omega);have e:(l.take i).getD j (ByteArray.empty,0)=l.getD j (ByteArray.empty,0):=by
  rw[List.getD_eq_getElem?_getD,List.getD_eq_getElem?_getD,List.getElem?_take,if_pos hj]
 show w.rangeAt b (q+j*2) (dR ((l.take i).getD j (ByteArray.empty,0)));rw[e];exact this
theorem Vo(x:aJ):∀u∈dR x,u.oneCell'=true:=by
 intro u hu;simp[dR]at hu;rcases hu with rfl|rfl<;>rfl
def Qe:List Value:=[.string ⟨#[]⟩,.int .i64 0]
theorem Wv:((prog.info? 137).bind (·.zero)).map (·.cells)=some Qe.toArray:=by kernel_rfl
theorem af_{w:World}{xb:Nat}{x:aJ}(h:ak w xb (dR x) 137)(y:aJ):aC prog 198 [.agg (dR y).toArray,.pointer (some ⟨xb,0,none⟩)] w fun r w'=>r=.bool (y.1.toList==x.1.toList)∧ae [] w w':=by
 obtain⟨ys,yz⟩:=y;obtain⟨xs,xz⟩:=x;refine aG 9 func198 ?_;refine au ?_;refine aj (bY [.string ys,.int .i64 yz] rfl ?_);intro w1 b gI bt ah aM;have h1:=ah.af h (by simp);unfold dR at h1;refine aU ?_;refine ai _ (o_ ys xs _ rfl rfl rfl rfl w1) ?_;refine au ?_;exact ay func198 rfl ⟨rfl,ah⟩
def p8(x y:aJ):Bool:=y.1.toList==x.1.toList
theorem aga{F:Nat→Prop}{w:World}{xb:Nat}{x:aJ}{lv:Value}{l:List aJ}(h:mT F w lv l)(hF:In F w)(hx:ak w xb (dR x) 137)(hl:l.length≤1000):aC prog 220 [lv,.func (.func 198) #[] #[.pointer (some ⟨xb,0,none⟩)]] w fun r w'=>(∃j:Int,r=.int .i64 j∧decide (j≥0)=l.any (p8 x))∧ae [] w w':=by
 obtain⟨a,cap,rfl⟩:=h.form;refine aG 19 func220 ?_;refine au ?_;refine cP (fun m σ w'=>∃i:Nat,i≤l.length∧m=l.length-i∧σ=[(0,.slice a l.length cap),(1,.func (.func 198) #[] #[.pointer (some ⟨xb,0,none⟩)]),(7,.int .i64 (l.length:Nat)),(8,.int .i64 (i:Nat))]∧(l.take i).any (p8 x)=false∧ae [] w w')
  l.length _ ?_ ⟨0,by omega,by omega,rfl,by simp,ae.refl _ _⟩ ?_
 ·exact⟨rfl,rfl,rfl,rfl,trivial⟩
 rintro m σ w2 ih⟨i,hi,rfl,rfl,kO,an⟩;refine au ?_;by_cases az:i<l.length
 ·refine ye ?_;refine au ?_;have cZ:l[i]?=some l[i]:=List.getElem?_eq_getElem az;obtain⟨bb,q,iF,hv,_,dD⟩:=(h.keep an hF.stays).at cZ;cases hv;refine ai _ (bJ i rfl az w2) ?_;refine ai _ (bF (dR l[i]) rfl dD) ?_;refine aj (aV (fst:=[]) (cap:=[.pointer (some ⟨xb,0,none⟩)]) rfl ((af_ (an.af hx (by simp)) l[i]).mono ?_));rintro v3 w3⟨rfl,aw⟩;have y3:(l.take (i+1)).any (p8 x)=p8 x l[i]:=by
   rw[List.take_succ_eq_append_getElem az,List.any_append,kO];simp
  cases hb:(l[i].1.toList==x.1.toList)with
  |true=>
   refine au ?_;refine ay func220 rfl ⟨⟨_,rfl,?_⟩,an.tr aw⟩;have:l.any (p8 x)=true:=List.any_eq_true.2 ⟨l[i],List.getElem_mem az,hb⟩;rw[this];simp
  |false=>
   refine nM ((i+1:Nat):Int) ?_;refine au ?_;refine bj ?_ (ih (l.length-(i+1)) [(0,.slice (some ⟨bb,q,none⟩) l.length cap),(1,.func (.func 198) #[] #[.pointer (some ⟨xb,0,none⟩)]),(7,.int .i64 (l.length:Nat)),(8,.int .i64 ((i+1:Nat):Int))] w3 (by omega) ⟨i+1,by omega,rfl,rfl,?_,an.tr aw⟩)
   ·exact⟨rfl,rfl,rfl,rfl,trivial⟩
   ·rw[y3];exact hb
 ·refine aL ?_;refine au ?_;refine ay func220 rfl ⟨⟨_,rfl,?_⟩,an⟩;rw[List.take_of_length_le (by omega)]at kO;rw[kO];rfl
theorem adr{F:Nat→Prop}{w:World}{xb:Nat}{x:aJ}{lv:Value}{l:List aJ}(h:mT F w lv l)(hF:In F w)(hx:ak w xb (dR x) 137)(hl:l.length≤1000):aC prog 197 [lv,.func (.func 198) #[] #[.pointer (some ⟨xb,0,none⟩)]] w fun r w'=>r=.bool (l.any (p8 x))∧ae [] w w':=by
 refine aG 9 func197 ?_;refine au ?_;refine aj (aV rfl ((aga h hF hx hl).mono ?_));rintro v1 w1⟨⟨j,rfl,hj⟩,ah⟩;refine ai (.bool (l.any (p8 x))) (bP .i64 _ _ _ rfl (by simp only[bU,←hj]) w1) ?_;refine au ?_;exact ay func197 rfl ⟨rfl,ah⟩
theorem XL{vs:List aJ}{i:Nat}{x:aJ}(hx:vs[i]?=some x):jE ((vs.take i).map (·.1)) (aT (vs.take i)) (vs.drop i)=if mP x.1=false then 8 else if(vs.take i).any (p8 x)=true then 9 else if x.2<1∨x.2>48∨aT (vs.take i)+x.2>48 then 1 else jE ((vs.take (i+1)).map (·.1)) (aT (vs.take (i+1))) (vs.drop (i+1)):=by
 obtain⟨az,e⟩:=List.getElem?_eq_some_iff.1 hx;rw[List.drop_eq_getElem_cons az,e];rw[A0 hx,List.take_succ_eq_append_getElem az,e,List.map_append];simp only[jE,List.any_map,List.map_cons,List.map_nil];rfl
theorem ac8{F:Nat→Prop}{w:World}{x:Value}{vs:List aJ}(h:mT F w x vs)(hF:In F w):aC prog 166 [x] w fun r w'=>r=.int .i64 (if vs.length>8 then 3 else jE [] 0 vs)∧ae [] w w':=by
 obtain⟨a,cap,rfl⟩:=h.form;refine aG 42 func166 ?_;refine au ?_;by_cases h8:vs.length>8
 ·refine ye ?_;refine au ?_;exact ay func166 rfl ⟨by rw[if_pos h8],ae.refl _ _⟩
 rw[if_neg h8];refine aL ?_;refine au ?_;refine cP (fun m σ w'=>∃i:Nat,i≤vs.length∧m=vs.length-i∧σ=[(0,.slice a vs.length cap),(3,.int .i64 (48-aT (vs.take i))),(9,.slice a vs.length cap),(10,.int .i64 (vs.length:Nat)),(11,.int .i64 (i:Nat))]∧
  jE [] 0 vs=jE ((vs.take i).map (·.1)) (aT (vs.take i)) (vs.drop i)∧0≤aT (vs.take i)∧aT (vs.take i)≤48∧ae [] w w') vs.length _ ?_ ⟨0,by omega,by omega,rfl,by simp[aT],by simp[aT],by simp[aT],ae.refl _ _⟩ ?_
 ·exact⟨rfl,rfl,rfl,rfl,rfl,trivial⟩
 rintro m σ w2 ih⟨i,hi,rfl,rfl,cR,kb,bt,an⟩;refine au ?_;by_cases az:i<vs.length
 ·refine ye ?_;refine au ?_;have cZ:vs[i]?=some vs[i]:=List.getElem?_eq_getElem az;obtain⟨nm,sz,RS⟩:∃nm sz,vs[i]=(nm,sz):=⟨_,_,rfl⟩;rw[RS]at cZ;rw[XL cZ]at cR;have y3:aT (vs.take (i+1))=aT (vs.take i)+sz:=A0 cZ;replace cR:jE [] 0 vs=if mP nm=false then 8 else if(vs.take i).any (p8 (nm,sz))=true then 9 else if sz<1∨sz>48∨aT (vs.take i)+sz>48 then 1 else jE ((vs.take (i+1)).map (·.1)) (aT (vs.take (i+1))) (vs.drop (i+1)):=cR;have h2:=h.keep an hF.stays;have dd:=hF.keep an;obtain⟨bb,q,iF,hv,_,dD⟩:=h2.at cZ;cases hv;refine ai _ (bJ i rfl az w2) ?_;refine ai _ (bF (dR (nm,sz)) rfl dD) ?_;refine aj (bO _ rfl Wv ?_);intro w3 c Av Qf aw hc;refine au ?_;refine aj (aH _ rfl (by kernel_rfl) hc (by simp[dR,Qe]) (Vo _) ?_);intro w4 cz ax jJ;rw[bs (by rfl)]at jJ;have eA:ae [] w2 w4:=aw.aO ax (by omega);have pE:=an.tr eA;refine lB jJ ?_;refine aj (aV rfl ((Wn nm w4).mono ?_));rintro v5 w5⟨rfl,rfl⟩;cases Mb:mP nm with
  |false=>
   refine au ?_;exact ay func166 rfl ⟨by rw[cR,if_pos Mb],pE⟩
  | true=>
   rw[Mb,if_neg (by simp)]at cR;refine au ?_;refine ai _ (I7 i hT rfl rfl rfl rfl rfl ?_ w5) ?_
   ·have:=h.room;omega
   refine au ?_;refine aj (aV rfl ((adr ((h2.keep eA dd.stays).cut hi) (dd.keep eA) jJ (by rw[List.length_take];omega)).mono ?_));rintro v6 w6⟨rfl,aD⟩;cases kO:(vs.take i).any (p8 (nm,sz))with
   |true=>
    refine au ?_;exact ay func166 rfl ⟨by rw[cR,if_pos kO],pE.tr aD⟩
   | false=>
    rw[kO,if_neg (by simp)]at cR;have om:=aD.af jJ (by simp);unfold dR at om;by_cases h1:sz<1
    ·refine aU ?_;exact ay func166 rfl ⟨by rw[cR,if_pos (.inl h1)],pE.tr aD⟩
    ·by_cases h3:sz>48-aT (vs.take i)
     ·refine aU ?_;exact ay func166 rfl ⟨by rw[cR,if_pos (by omega)],pE.tr aD⟩
     ·rw[if_neg (by omega)]at cR;refine aU ?_;refine nM (48-aT (vs.take (i+1))) ?_;refine nM ((i+1:Nat):Int) ?_;refine au ?_;refine bj ?_ (ih (vs.length-(i+1)) [(0,.slice (some ⟨bb,q,none⟩) vs.length cap),(3,.int .i64 (48-aT (vs.take (i+1)))),(9,.slice (some ⟨bb,q,none⟩) vs.length cap),(10,.int .i64 (vs.length:Nat)),(11,.int .i64 ((i+1:Nat):Int))] w6 (by omega)
       ⟨i+1,by omega,rfl,rfl,cR,by omega,by omega,pE.tr aD⟩)
      exact⟨rfl,rfl,rfl,rfl,rfl,trivial⟩
 ·refine aL ?_;refine au ?_;refine ay func166 rfl ⟨?_,an⟩;rw[cR,List.drop_eq_nil_of_le (by omega)];rfl
theorem Ww:((prog.info? 3).bind (·.zero)).map (·.cells)=some [Value.int .i64 0].toArray:=by kernel_rfl
theorem NQ{F:Nat→Prop}{w:World}{x:Value}{vs:List aJ}{body:List ST}(h:iN F w x vs body)(hF:In F w)(bw:cu body≤100000):aC prog 130 [x] w fun r w'=>r=.int .i64 (dq vs body)∧ae [] w w':=by
 obtain⟨vv,bv,rfl,hv,hb⟩:=h;obtain⟨av,aY,rfl⟩:=hv.form;obtain⟨ab,bh,rfl⟩:=hb.form;refine aG 15 func130 ?_;refine au ?_;refine aj (bY [.slice av vs.length aY,.slice ab body.length bh] rfl ?_);intro w1 pb uz bt ah aM;refine lB aM ?_;refine aj (aV rfl ((ac8 (hv.keep ah hF.stays) (hF.keep ah)).mono ?_));rintro v2 w2⟨rfl,an⟩;have qV:=ah.tr an;refine au ?_;unfold dq;by_cases h8:vs.length>8
 ·rw[if_pos h8,if_pos h8];refine ye ?_;refine au ?_;exact ay func130 rfl ⟨rfl,qV⟩
 rw[if_neg h8,if_neg h8];generalize jE [] 0 vs=cd;by_cases hz:cd=0
 ·subst hz;rw[if_neg (by simp)];refine aL ?_;refine au ?_;refine aj (bO _ rfl Ww ?_);intro w3 m EY cw aw hm;refine aj (aH _ rfl (by kernel_rfl) hm (by simp) (by simp;rfl) ?_);intro w4 cz ax xw;rw[bs (by rfl)]at xw;have pE:ae [] w w4:=(qV.tr aw).aO ax (by have:=qV.size;omega);have oh:=ax.af (aw.af (an.af aM (by simp)) (by simp)) (by simp;have:=(an.af aM (by simp)).lt;omega);refine lB oh ?_;refine au ?_;refine aj (aV rfl ((ac7 _ body (Nat.lt_succ_self _) bw 0 0 (hb.keep pE hF.stays) (hF.keep pE) (fun h=>by have:=hF m h;have:=qV.size;omega) ⟨xw,oh⟩ (by omega) (by omega)).mono ?_));rintro v5 w5⟨rfl,_,aE⟩;refine au ?_;exact ay func130 rfl ⟨rfl,pE.aO aE (by have:=qV.size;omega)⟩
 ·rw[if_pos hz];refine ye ?_;refine au ?_;exact ay func130 rfl ⟨rfl,qV⟩
theorem ajE{P:Program}{n:Nat}{σ:Env}{o:Oper}{x y:Operand}{t t':TypeId}{a b:Int}(r:Int)(ho:o.op=.call {callee:=.builtin .min,args:=#[x,y],argTypes:=#[t,t']})(hx:ev σ x=some (.int .i64 a))(hy:ev σ y=some (.int .i64 b))(hr:min a b=r)(w:World):cS P n σ o w (.int .i64 r):=by
 intro ac ha;subst hr;have e:(if b<a then b else a)=min a b:=by
  split<;>omega
 simp[execOp,ho,resolve,invoke,builtin,Builtin.min_,Builtin.min2,ha.eval hx,ha.eval hy,e]
def ua(vs:List aJ):Prop:=vs.length≤30∧∀x∈vs,0≤x.2∧x.2≤1000
theorem ua.sum{vs:List aJ}(h:ua vs)(i:Nat)(hi:i≤vs.length):0≤aT (vs.take i)∧aT (vs.take i)≤1000*(i:Int):=by
 induction i with
 |zero=>simp[aT]
 |succ i ih=>
  obtain⟨h1,h2⟩:=ih (by omega);have cZ:vs[i]?=some vs[i]:=List.getElem?_eq_getElem (by omega);have h3:=h.2 vs[i] (List.getElem_mem _);rw[A0 cZ];omega
theorem N9{F:Nat→Prop}{w:World}{x:Value}{vs:List aJ}{body:List ST}(h:iN F w x vs body)(hF:In F w)(hs:ua vs)(v:Int):aC prog 172 [x,.int .i64 v] w fun r w'=>r=.int .i64 (cellOf vs v)∧ae [] w w':=by
 obtain⟨vv,bv,rfl,hv,hb⟩:=h;obtain⟨av,aY,rfl⟩:=hv.form;obtain⟨ab,bh,rfl⟩:=hb.form;have am8:=hs.1;refine aG 25 func172 ?_;refine au ?_;refine aj (bY [.slice av vs.length aY,.slice ab body.length bh] rfl ?_);intro w1 pb uz bt ah aM;refine lB aM ?_;refine au ?_;refine ai _ (ajE (min v (vs.length:Nat)) rfl rfl rfl rfl w1) ?_;refine au ?_;refine cP (fun q σ w'=>∃i:Nat,i≤vs.length∧((i:Int)≤v∨i=0)∧q=vs.length-i∧σ=[(2,.pointer (some ⟨pb,0,none⟩)),(5,.int .i64 (aT (vs.take i))),(11,.int .i64 (min v (vs.length:Nat))),(12,.int .i64 (i:Nat))]∧w'=w1) vs.length _ ?_ ⟨0,by omega,by omega,by omega,rfl,rfl⟩ ?_
 ·exact⟨rfl,rfl,rfl,rfl,trivial⟩
 rintro q σ w2 ih⟨i,hi,od,rfl,rfl,rfl⟩;refine au ?_;by_cases az:(i:Int)<min v (vs.length:Nat)
 ·refine ye ?_;refine lB aM ?_;refine au ?_;have hl:i<vs.length:=by omega
  have cZ:vs[i]?=some vs[i]:=List.getElem?_eq_getElem hl;have y3:=A0 cZ;have aX:=hs.sum (i+1) (by omega);obtain⟨bb,q,iF,tF,_,dD⟩:=(hv.keep ah hF.stays).at cZ;cases tF;refine ai _ (bJ i rfl hl w2) ?_;refine au ?_;refine ai _ (aB rfl (dD 1 (.int .i64 vs[i].2) rfl)) ?_;refine nM (aT (vs.take (i+1))) ?_;refine nM ((i+1:Nat):Int) ?_;refine au ?_;refine bj ?_ (ih (vs.length-(i+1)) [(2,.pointer (some ⟨pb,0,none⟩)),(5,.int .i64 (aT (vs.take (i+1)))),(11,.int .i64 (min v (vs.length:Nat))),(12,.int .i64 ((i+1:Nat):Int))] w2 (by omega) ⟨i+1,by omega,by omega,rfl,rfl,rfl⟩);exact⟨rfl,rfl,rfl,rfl,trivial⟩
 ·refine aL ?_;refine au ?_;refine ay func172 rfl ⟨?_,ah⟩;unfold cellOf;rcases Nat.lt_or_ge i vs.length with h'|h'
  ·rw[show v.toNat=i by omega]
  ·rw[List.take_of_length_le (by omega),List.take_of_length_le (by omega)]
theorem Vq{F:Nat→Prop}{w:World}{x:Value}{vs:List aJ}{body:List ST}(h:iN F w x vs body)(hF:In F w)(hs:ua vs):aC prog 135 [x] w fun r w'=>r=.int .i64 (cellOf vs (vs.length:Nat))∧ae [] w w':=by
 obtain⟨vv,bv,rfl,hv,hb⟩:=h;obtain⟨av,aY,rfl⟩:=hv.form;obtain⟨ab,bh,rfl⟩:=hb.form;refine aG 8 func135 ?_;refine au ?_;refine aj (bY [.slice av vs.length aY,.slice ab body.length bh] rfl ?_);intro w1 pb uz bt ah aM;refine au ?_;refine ai _ (bF [.slice av vs.length aY,.slice ab body.length bh] rfl (aM.range (by rfl))) ?_;refine lB aM ?_;refine au ?_;refine aj (aV rfl ((N9 (F:=F) ⟨_,_,rfl,hv.keep ah hF.stays,hb.keep ah hF.stays⟩ (hF.keep ah) hs (vs.length:Nat)).mono ?_));rintro v2 w2⟨rfl,an⟩;refine au ?_;exact ay func135 rfl ⟨rfl,ah.tr an⟩
theorem M8{F:Nat→Prop}{w:World}{cs:List Value}{t:ET}(h:dY F w cs t):aC prog 158 [.agg cs.toArray] w fun v w'=>v=.bool (j3 t)∧ae [] w w':=by
 obtain⟨op,v,n,l⟩:=t;obtain⟨lv,rfl,hl⟩:=h.inv;obtain⟨a,cap,rfl⟩:=hl.form;refine aG 22 func158 ?_;refine au ?_;refine aj (qG [.int .i64 op,.int .i64 v,.int .i64 n,.slice a l.length cap] rfl rfl rfl ?_);have bX:ae [] w (w.alloc (.cells [.int .i64 op,.int .i64 v,.int .i64 n,.slice a l.length cap].toArray 141)):=(ae.refl _ _).alloc _;have gI:ak (w.alloc (.cells [.int .i64 op,.int .i64 v,.int .i64 n,.slice a l.length cap].toArray 141)) w.heap.size [.int .i64 op,.int .i64 v,.int .i64 n,.slice a l.length cap] 141:=ak.new _ _ _;generalize(w.alloc (.cells [.int .i64 op,.int .i64 v,.int .i64 n,.slice a l.length cap].toArray 141))=w1 at*;generalize w.heap.size=b at*;rw[Wp];by_cases h1:op=0
 ·by_cases h2:v=0
  ·by_cases h3:n=0
   ·by_cases h4:l.length=0
    ·refine aU ?_;exact ay func158 rfl ⟨by simp[h1,h2,h3,h4],bX⟩
    ·refine aU ?_;exact ay func158 rfl ⟨by simp[h1,h2,h3,h4],bX⟩
   ·refine aU ?_;exact ay func158 rfl ⟨by simp[h1,h2,h3],bX⟩
  ·refine aU ?_;exact ay func158 rfl ⟨by simp[h1,h2],bX⟩
 ·refine aU ?_;exact ay func158 rfl ⟨by simp[h1],bX⟩
theorem Uf(op:Int)(w:World):aC prog 155 [.int .i64 op] w fun v w'=>v=.int .i64 (partsOf op)∧w'=w:=by
 refine aG 15 func155 ?_;have h:(op=1∨op=2∨op=3∨op=4∨op=5)∨(op=6∨op=7∨op=8∨(op<1∨op>8)):=by omega
 rcases h with(h|h|h|h|h)|(h|h|h|h)<;>(refine aU ?_;refine ay func155 rfl ⟨?_,rfl⟩;congr 1;(unfold partsOf;repeat' split)<;>omega)
def zH(op:Int):ByteArray:=if op=1 then⟨#[101,118]⟩else if op=2 then⟨#[101,102,118]⟩else if op=3 then⟨#[101]⟩else if op=4 then⟨#[118]⟩else if op=5 then⟨#[101,98]⟩else if op=6 then⟨#[101,98,111]⟩else⟨#[]⟩
theorem ag9(op:Int)(w:World):aC prog 153 [.int .i64 op] w fun v w'=>v=.string (zH op)∧w'=w:=by
 refine aG 16 func153 ?_;have h:op=1∨op=2∨op=3∨op=4∨op=5∨op=6∨(op≠1∧op≠2∧op≠3∧op≠4∧op≠5∧op≠6):=by omega
 rcases h with h|h|h|h|h|h|h
 ·subst h;refine aU ?_;exact ay func153 rfl ⟨rfl,rfl⟩
 ·subst h;refine aU ?_;exact ay func153 rfl ⟨rfl,rfl⟩
 ·subst h;refine aU ?_;exact ay func153 rfl ⟨rfl,rfl⟩
 ·subst h;refine aU ?_;exact ay func153 rfl ⟨rfl,rfl⟩
 ·subst h;refine aU ?_;exact ay func153 rfl ⟨rfl,rfl⟩
 ·subst h;refine aU ?_;exact ay func153 rfl ⟨rfl,rfl⟩
 ·refine aU ?_;exact ay func153 rfl ⟨by simp[zH,h],rfl⟩
def zQ(op:Int)(c:Nat):Bool:=(zH op).data.toList.any fun x=>x.toNat==c
theorem aeo(op:Int):(zH op).size≤3:=by
 unfold zH
 repeat' split
 all_goals decide
theorem rJ(op:Int)(c:Nat)(w:World):aC prog 119 [.int .i64 op,.int .u8 (c:Nat)] w fun v w'=>v=.bool (zQ op c)∧w'=w:=by
 refine aG 20 func119 ?_;refine au ?_;refine aj (aV rfl ((ag9 op w).mono ?_));rintro v1 w1⟨rfl,rfl⟩;have h3:=aeo op;unfold zQ;generalize zH op=s at*;have bw:s.data.toList.length=s.size:=by simp
 refine au ?_;refine cP (fun m σ w'=>∃i:Nat,i≤s.size∧m=s.size-i∧σ=[(1,.int .u8 (c:Nat)),(5,.string s),(6,.int .i64 (i:Nat))]∧(s.data.toList.take i).any (fun x=>x.toNat==c)=false∧w'=w1) s.size _ ?_ ⟨0,by omega,by omega,rfl,by simp,rfl⟩ ?_
 ·exact⟨rfl,rfl,rfl,trivial⟩
 rintro m σ w2 ih⟨i,hi,rfl,rfl,kO,rfl⟩;refine au ?_;refine ai _ (zo s (by decide+kernel) rfl rfl w2) ?_;by_cases az:i<s.size
 ·refine ye ?_;refine au ?_;have eJ:=O9 az;have hx:s.data.toList[i]?=some (s.data.toList[i]'(by omega)):=List.getElem?_eq_getElem _
  have y3:(s.data.toList.take (i+1)).any (fun x=>x.toNat==c)=((s.data.toList[i]'(by omega)).toNat==c):=by
   rw[List.take_succ_eq_append_getElem (by omega),List.any_append,kO];simp
  have EK:((s.data.toList[i]'(by omega)).toNat==c)=true→s.data.toList.any (fun x=>x.toNat==c)=true:=fun h=>List.any_eq_true.2 ⟨_,List.getElem_mem _,h⟩
  generalize s.data.toList[i]'(by omega)=x at*
  refine ai _ (Dt s i x (by decide+kernel) rfl rfl rfl rfl eJ w2) ?_;refine au ?_;by_cases hc:x.toNat=c
  ·refine ye ?_;refine au ?_;exact ay func119 rfl ⟨by rw[EK (by simpa using hc)],rfl⟩
  ·refine aL ?_;refine nM ((i+1:Nat):Int) ?_;refine au ?_;refine bj ?_ (ih (s.size-(i+1)) [(1,.int .u8 (c:Nat)),(5,.string s),(6,.int .i64 ((i+1:Nat):Int))] w2 (by omega) ⟨i+1,by omega,rfl,rfl,by rw[y3];simpa using hc,rfl⟩);exact⟨rfl,rfl,rfl,trivial⟩
 ·refine aL ?_;refine au ?_;refine ay func119 rfl ⟨?_,rfl⟩;rw[List.take_of_length_le (by omega)]at kO;rw[kO]
theorem wk(op:Int):zQ op 101=dw op∧zQ op 102=cY op∧zQ op 118=iA op∧zQ op 98=mn op∧zQ op 111=lz op:=by
 have h:op=1∨op=2∨op=3∨op=4∨op=5∨op=6∨(op≠1∧op≠2∧op≠3∧op≠4∧op≠5∧op≠6):=by omega
 rcases h with h|h|h|h|h|h|h
 ·subst h;decide+kernel
 ·subst h;decide+kernel
 ·subst h;decide+kernel
 ·subst h;decide+kernel
 ·subst h;decide+kernel
 ·subst h;decide+kernel
 ·have e:zH op=⟨#[]⟩:=by simp[zH,h]
  simp[zQ,e,dw,cY,iA,mn,lz,h]
theorem TJ(s:ByteArray)(hs:s.size≤100000)(w:World):aC prog 115 [.string s] w fun v w'=>v=.bool (mP s)∧w'=w:=by
 refine aG 28 func115 ?_;have bw:s.data.toList.length=s.size:=by simp
 refine au ?_;refine cP (fun m σ w'=>∃i:Nat,i≤s.size∧m=s.size-i∧σ=[(0,.string s),(3,.int .i64 (i:Nat))]∧(s.data.toList.take i).all letter=true∧w'=w) s.size _ ?_ ⟨0,by omega,by omega,rfl,by simp,rfl⟩ ?_
 ·exact⟨rfl,rfl,trivial⟩
 rintro m σ w2 ih⟨i,hi,rfl,rfl,kJ,rfl⟩;refine au ?_;refine ai _ (zo s (by decide+kernel) rfl rfl w2) ?_;by_cases az:i<s.size
 ·refine ye ?_;refine au ?_;have eJ:=O9 az;have y3:=Tf (l:=s.data.toList) (i:=i) (by omega);have hf:=Ta (l:=s.data.toList) (i:=i) (by omega);generalize s.data.toList[i]'(by omega)=c at*
  refine ai _ (Dt s i c (by decide+kernel) rfl rfl rfl rfl eJ w2) ?_;by_cases h3:c.toNat<97
  ·refine aU ?_;refine ay func115 rfl ⟨?_,rfl⟩;rw[mP,hf (by simp[letter];omega)];rfl
  ·refine aU ?_;refine ai _ (Dt s i c (by decide+kernel) rfl rfl rfl rfl eJ w2) ?_;by_cases h4:c.toNat>122
   ·refine aU ?_;refine ay func115 rfl ⟨?_,rfl⟩;rw[mP,hf (by simp[letter];omega)];rfl
   ·refine aU ?_;refine nM ((i+1:Nat):Int) ?_;refine au ?_;refine bj ?_ (ih (s.size-(i+1)) [(0,.string s),(3,.int .i64 ((i+1:Nat):Int))] w2 (by omega) ⟨i+1,by omega,rfl,rfl,?_,rfl⟩)
    ·exact⟨rfl,rfl,trivial⟩
    ·rw[y3,kJ];simp[letter];omega
 ·refine aL ?_;refine au ?_;refine ai _ (zo s (by decide+kernel) rfl rfl w2) ?_;rw[List.take_of_length_le (by omega)]at kJ;by_cases h1:s.size≥1
  ·refine aU ?_;refine ai _ (zo s (by decide+kernel) rfl rfl w2) ?_;by_cases h8:s.size≤8
   ·refine aU ?_;refine ay func115 rfl ⟨?_,rfl⟩;have e1:1≤s.size:=h1;simp only[mP,kJ,e1,h8,decide_true,Bool.and_self]
   ·refine aU ?_;refine ay func115 rfl ⟨?_,rfl⟩;simp[mP,h8]
  ·refine aU ?_;refine ay func115 rfl ⟨?_,rfl⟩;have e1:¬1≤s.size:=h1;simp[mP,e1]
theorem I8{F:Nat→Prop}{w:World}{x:Value}{vs:List aJ}{body:List ST}(h:iN F w x vs body)(hF:In F w)(hs:ua vs)(v:Int):aC prog 50 [x,.int .i64 v] w fun r w'=>r=.int .i64 (cellOf vs v)∧ae [] w w':=by
 obtain⟨vv,bv,rfl,hv,hb⟩:=h;obtain⟨av,aY,rfl⟩:=hv.form;obtain⟨ab,bh,rfl⟩:=hb.form;have am8:=hs.1;refine aG 28 func50 ?_;refine au ?_;refine aj (bY [.slice av vs.length aY,.slice ab body.length bh] rfl ?_);intro w1 pb uz bt ah aM;refine au ?_;refine cP (fun q σ w'=>∃i:Nat,i≤vs.length∧((i:Int)≤v∨i=0)∧q=vs.length-i∧σ=[(1,.int .i64 v),(2,.pointer (some ⟨pb,0,none⟩)),(5,.int .i64 (aT (vs.take i))),(6,.int .i64 (i:Nat))]∧w'=w1) vs.length _ ?_ ⟨0,by omega,by omega,by omega,rfl,rfl⟩ ?_
 ·exact⟨rfl,rfl,rfl,rfl,trivial⟩
 rintro q σ w2 ih⟨i,hi,od,rfl,rfl,rfl⟩;refine au ?_;by_cases az:(i:Int)<v
 ·by_cases hl:i<vs.length
  ·have cZ:vs[i]?=some vs[i]:=List.getElem?_eq_getElem hl;have y3:=A0 cZ;have aX:=hs.sum (i+1) (by omega);obtain⟨bb,q,iF,tF,_,dD⟩:=(hv.keep ah hF.stays).at cZ;cases tF;refine aU ?_;refine ai _ (bJ i rfl hl w2) ?_;refine au ?_;refine ai _ (aB rfl (dD 1 (.int .i64 vs[i].2) rfl)) ?_;refine nM (aT (vs.take (i+1))) ?_;refine nM ((i+1:Nat):Int) ?_;refine au ?_;refine bj ?_ (ih (vs.length-(i+1)) [(1,.int .i64 v),(2,.pointer (some ⟨pb,0,none⟩)),(5,.int .i64 (aT (vs.take (i+1)))),(6,.int .i64 ((i+1:Nat):Int))] w2 (by omega) ⟨i+1,by omega,by omega,rfl,rfl,rfl⟩);exact⟨rfl,rfl,rfl,rfl,trivial⟩
  ·refine aU ?_;refine ay func50 rfl ⟨?_,ah⟩;unfold cellOf;rw[List.take_of_length_le (by omega),List.take_of_length_le (by omega)]
 ·refine aU ?_;refine ay func50 rfl ⟨?_,ah⟩;unfold cellOf;rw[show v.toNat=i by omega]
theorem aeS(a n:Int):prog.built jq [(0,.int .i64 a),(3,.int .i64 n)]=some (iC (a,0,0,n)).toArray:=by kernel_rfl
theorem NR(a:Int):prog.built jq [(0,.int .i64 a)]=some (iC (a,0,0,0)).toArray:=by kernel_rfl
theorem FP(a b:Int):prog.built jq [(0,.int .i64 a),(1,.int .i64 b)]=some (iC (a,b,0,0)).toArray:=by kernel_rfl
theorem af7(a b c:Int):prog.built jq [(0,.int .i64 a),(1,.int .i64 b),(2,.int .i64 c)]=some (iC (a,b,c,0)).toArray:=by kernel_rfl
theorem pe:((prog.info? jq).bind (·.zero)).map (·.cells)=some (iC (0,0,0,0)).toArray:=by kernel_rfl
theorem pf:dH prog jq 4=true:=by kernel_rfl
theorem wq(x:Is):kE prog 118 1 [(0,.agg (iC x).toArray)]=some (jq,(iC x).toArray):=by
 obtain⟨a,b,c,d⟩:=x
 kernel_rfl
theorem qM:wE prog 118 jq 4 32=true:=by decide+kernel
theorem wA{w:World}{b e:Nat}{x:Is}(hb:ak w b (iC x) e):lC (fun c=>c=b) w (.slice (some ⟨b,0,none⟩) 1 1) [x]:=
 ⟨_,1,rfl,fun _=>⟨b,0,rfl,rfl,hb.range (by simp[kX,iC])⟩⟩
theorem qH{e:Nat}{w w' w2:World}{v:Value}{l:List Is}(h:fN e w w2.heap.size v l)(hk:ae [] w2 w)(aK:ae v.ownBlock.toList w w'):ae [] w2 w':=hk.trans aK fun k hm=>.inr (h.own k hm).1
theorem Tw{vs:List aJ}{bd:List ST}(hs:ua vs){av ab:Option Addr}{aY bh:Nat}:∀(s:Nat) (t:ET),fO t<s→fO t≤100000→CB vs.length t→∀{F:Nat→Prop} {w:World} {cs:List Value},iN F w (.agg #[.slice av vs.length aY,.slice ab bd.length bh]) vs bd→dY F w cs t→In F w→aC prog 161 [.agg #[.slice av vs.length aY,.slice ab bd.length bh],.agg cs.toArray] w fun r w'=>fN jq w' w.heap.size r (ey vs t)∧ae [] w w':=by
 intro s;induction s with
 |zero=>intro t ht;omega
 | succ s vA=>
  intro t ht fY eT F w cs hp hX hF;obtain⟨op,v,n,l⟩:=t;obtain⟨lv,rfl,hE⟩:=hX.inv;obtain⟨a,cap,rfl⟩:=hE.form;obtain⟨Am,L5⟩:=eT;simp only[fO]at ht fY;have hlen:=F4 l;have fF:=Dy vs l;refine aG 57 func161 ?_;refine au ?_;refine aj (bY [.slice av vs.length aY,.slice ab bd.length bh] rfl ?_);intro w1 x1 cJ bt ah GZ;refine aj (bY [.int .i64 op,.int .i64 v,.int .i64 n,.slice a l.length cap] rfl ?_);intro w2 x2 gi cE an gZ;have cm:=an.af GZ (by simp);have hk:=ah.tr an;have gT:=hp.keep hk hF.stays;have RH:=hE.keep hk hF.stays;have dd:=hF.keep hk;have sZ:w.heap.size≤w2.heap.size:=hk.size;clear GZ ah an;refine au ?_;refine cP (fun m σ w'=>∃(i:Nat) (rv:Value),i≤l.length∧m=l.length-i∧σ=[(2,.pointer (some ⟨x1,0,none⟩)),(3,.pointer (some ⟨x2,0,none⟩)),(5,rv),(6,.int .i64 (i:Nat))]∧fN jq w' w2.heap.size rv (gr vs (l.take i))∧ae [] w2 w') l.length _ ?_ ⟨0,_,by omega,by omega,rfl,fN.nil _ _ _,ae.refl _ _⟩ ?_
  ·exact⟨rfl,rfl,rfl,rfl,trivial⟩
  rintro m σ w6 ih⟨i,rv,hi,rfl,rfl,bN,aD⟩;have wW:=aD.af cm (by simp);have pD:=aD.af gZ (by simp);refine lB pD ?_;refine au ?_;by_cases az:i<l.length
  ·refine ye ?_;have j_:l[i]?=some l[i]:=List.getElem?_eq_getElem az;have GX:=Jr j_;have K7:=Js l (i+1);have r_:=Dy vs (l.take i);have Aq:=DJ vs l[i];have xr:=Uy vs j_;obtain⟨ra,rc,xp⟩:=bN.form;obtain⟨b1,q1,c1,ci,tC,og,fh,eO⟩:=RH.at j_;cases tC;refine au ?_;refine bC (fun w'=>ae [] w6 w') [8] bE ?_;have hS:ae [] w6 w6.drew:=(ae.refl _ _).drew;generalize w6.drew=w7 at*;refine tk 0 ?_;refine aI 1 (.agg #[.slice av vs.length aY,.slice ab bd.length bh]) rfl (fun w9 aq=>bF [.slice av vs.length aY,.slice ab bd.length bh] rfl ((aq.af wW (by simp)).range (by rfl))) hS ?_;refine tk 2 ?_;refine aI 3 _ rfl (fun w9 aq=>aB rfl ((aq.af pD (by simp)).cell rfl)) hS ?_;refine tk 4 ?_;refine bD 5 _ rfl (fun w=>bJ i rfl az w) ?_;refine aI 6 (.agg ci.toArray) rfl (fun w9 aq=>h_ ci hT rfl rfl (by rw[eO.length];rfl) (ft fh (aD.tr aq) (dd _ og) (by simp))) hS ?_;have lV:=aD.tr hS;refine dC 7 (vA l[i] (by omega) (by omega) (OB L5 j_) (gT.keep lV dd.stays) (eO.keep lV dd.stays) (dd.keep lV)) ?_;rintro r w8⟨mS,aS⟩;refine⟨fun _=>hS.tr aS,?_⟩;have G0:=bN.aA (hS.tr aS);have s0:=lV.tr aS;refine a8 8 rfl (pY (gr vs (l.take i)) (ey vs l[i]) rfl rfl rfl qM G0 mS.ins (by omega) s0.size ?_);intro v9 w9 BJ bg;refine⟨fun h=>absurd (by simp) h,?_⟩;refine tk 9 ?_;refine bm ?_;refine nM ((i+1:Nat):Int) ?_;refine au ?_;refine bj ?_ (ih (l.length-(i+1)) [(2,.pointer (some ⟨x1,0,none⟩)),(3,.pointer (some ⟨x2,0,none⟩)),(5,v9),(6,.int .i64 ((i+1:Nat):Int))] w9 (by omega) ⟨i+1,v9,by omega,rfl,rfl,?_,qH G0 s0 bg⟩)
   ·exact⟨rfl,rfl,rfl,rfl,trivial⟩
   ·rw[xr];exact BJ
  ·refine aL ?_;rw[List.take_of_length_le (by omega)]at bN;refine lB pD ?_;refine lB pD ?_;refine ai _ (bL _ rfl rfl (aeS op n) w6) ?_;refine aj (bO _ rfl pe ?_);intro w7 x7 sd jr aN eC;refine aj (aH (iC (op,0,0,n)) rfl pf eC (by simp[iC]) (nJ _) ?_);intro w8 jP aS cB;rw[bs (by rfl)]at cB;have eP:ae [] w6 w8:=aN.aO aS (by omega);have bS:∀k∈rv.ownBlock.toList,k<x7:=fun k hm=>by have:=(bN.own k hm).2;omega
   have arA:w2.heap.size≤x7:=by have:=aD.size;omega
   refine aP ?_;refine bT ?_;refine fx (fun σ' w'=>ak w' x7 (iC (op,if op=2∨op=3 then cellOf vs v else 0,0,n)) jq∧ae [] w6 w'∧Sub [(2,.pointer (some ⟨x1,0,none⟩)),(3,.pointer (some ⟨x2,0,none⟩)),(5,rv),(7,.pointer (some ⟨x7,0,none⟩))] σ') ?_ ?_
   rotate_left
   ·intro fin;by_cases vy:op=2∨op=3
    ·rw[if_pos vy]at fin;refine lB (eP.af pD (by simp)) ?_;by_cases h2:op=2
     ·refine ye ?_;refine aP ?_;refine cH ?_;refine ai _ (bF [.slice av vs.length aY,.slice ab bd.length bh] rfl ((eP.af wW (by simp)).range (by rfl))) ?_;refine lB (eP.af pD (by simp)) ?_;refine oC (I8 (gT.keep (aD.tr eP) dd.stays) (dd.keep (aD.tr eP)) hs v) ?_;rintro r w9⟨rfl,bg⟩;refine au ?_;refine aj (aH [.int .i64 (cellOf vs v)] rfl gC (bg.af cB (by simp)) (by simp[iC]) (eK _) ?_);intro bM zY bV ld;refine aP ?_;exact fin _ _ ⟨ld,(eP.tr bg).aO bV (by omega),rfl,rfl,rfl,rfl,trivial⟩
     ·refine aL ?_;refine lB (eP.af pD (by simp)) ?_;refine ye ?_;refine aP ?_;refine cH ?_;refine ai _ (bF [.slice av vs.length aY,.slice ab bd.length bh] rfl ((eP.af wW (by simp)).range (by rfl))) ?_;refine lB (eP.af pD (by simp)) ?_;refine oC (I8 (gT.keep (aD.tr eP) dd.stays) (dd.keep (aD.tr eP)) hs v) ?_;rintro r w9⟨rfl,bg⟩;refine au ?_;refine aj (aH [.int .i64 (cellOf vs v)] rfl gC (bg.af cB (by simp)) (by simp[iC]) (eK _) ?_);intro bM zY bV ld;refine aP ?_;exact fin _ _ ⟨ld,(eP.tr bg).aO bV (by omega),rfl,rfl,rfl,rfl,trivial⟩
    ·rw[if_neg vy]at fin;refine lB (eP.af pD (by simp)) ?_;refine aL ?_;refine lB (eP.af pD (by simp)) ?_;refine aL ?_;refine aP ?_;exact fin _ _ ⟨cB,eP,rfl,rfl,rfl,rfl,trivial⟩
   clear cB aS jP;rintro σ' bM⟨ld,wH,bH⟩;refine bj bH ?_;refine bT ?_;refine fx (fun σ' w'=>ak w' x7 (iC (op,if op=2∨op=3 then cellOf vs v else 0,if op=3 then jk vs v else 0,n)) jq∧ae [] w6 w'∧Sub [(5,rv),(7,.pointer (some ⟨x7,0,none⟩))] σ') ?_ ?_
   rotate_left
   ·intro fin;refine lB (wH.af pD (by simp)) ?_;by_cases h3:op=3
    ·refine ye ?_;rw[if_pos h3]at fin;obtain⟨kY,du⟩:=Am (.inr h3);obtain⟨k,rfl⟩:∃k:Nat,v=(k:Nat):=⟨v.toNat,by omega⟩;simp only[Int.toNat_natCast]at du;have xn:vs[k]?=some vs[k]:=List.getElem?_eq_getElem du;obtain⟨vv,bv,pO,hv,_⟩:=gT;cases pO;obtain⟨vb,vq,vc,kx,CA,xp⟩:=hv.at xn;cases kx;have xq:jk vs ((k:Nat):Int)=vs[k].2:=by
      unfold jk;rw[Int.toNat_natCast,List.getD_eq_getElem?_getD,xn];rfl
     rw[xq]at fin;refine aP ?_;refine cH ?_;refine lB (wH.af wW (by simp)) ?_;refine lB (wH.af pD (by simp)) ?_;refine ai _ (bJ k rfl du bM) ?_;refine au ?_;refine ai _ (aB rfl ((ft xp (aD.tr wH) (dd _ CA) (by simp)) 1 (.int .i64 vs[k].2) rfl)) ?_;refine au ?_;refine aj (aH [.int .i64 vs[k].2] rfl gC ld (by simp[iC]) (eK _) ?_);intro dB u4 b8 ue;refine aP ?_;exact fin _ _ ⟨ue,wH.aO b8 (by omega),rfl,rfl,trivial⟩
    ·refine aL ?_;rw[if_neg h3]at fin;refine aP ?_;exact fin _ _ ⟨ld,wH,rfl,rfl,trivial⟩
   clear ld wH bH;rintro σ' dB⟨ue,Pz,bH⟩;refine bj bH ?_;obtain⟨X,hX⟩:∃X:Is,X=(op,if op=2∨op=3 then cellOf vs v else 0,if op=3 then jk vs v else 0,n):=⟨_,rfl⟩;rw[←hX]at ue;refine au ?_;refine ai (.agg (iC X).toArray) (bF (iC X) rfl (ue.range (by rfl))) ?_;refine aj (eE jq (iC X) rfl rfl (wq X) ?_);intro fj g hg u6 di u0;have uU:=bN.aA (Pz.tr di);refine aj (pY (gr vs l) [X] rfl rfl rfl qM uU (wA u0) (by simp;omega) ((aD.tr Pz).tr di).size ?_);intro RI iW uV bZ;refine au ?_;refine ay func161 rfl ⟨?_,hk.tr (qH uU ((aD.tr Pz).tr di) bZ)⟩;simp only[ey];rw[←hX];exact uV.lower sZ
theorem afT{w0 w:World}{b:Nat}{W:List Is}{inp:List Int}{cv iv:Value}{r:gh}{m k:Md}{p:Pr}(h:Bw w0 w b W inp cv iv r m k p)(hs:m.state=0){A B N:Int}(hx:W[m.next]?=some (1,A,B,N))(gS:W.length≤1000000)(aZ:m.stack.length≤1000)(_:m.cells.length≤1000)(q:Bool):aC prog 53 [.pointer (some ⟨b,0,none⟩),.bool q] w fun v w'=>v=.bool true∧mW w0 w w' b W inp cv iv r (bu inp (1,A,B,N) m p).1 k (bu inp (1,A,B,N) m p).2:=by
 obtain⟨sv,cl,ks,kc,ov⟩:=r;have hn:m.next<W.length:=(List.getElem?_eq_some_iff.1 hx).1;obtain⟨cb,cq,cA,cL,ik,dN⟩:=h.cd.ins.at hx;subst cL;refine aG 307 func53 ?_;refine lB h.bk ?_;refine aL ?_;refine au ?_;refine bC (fun w'=>ae [] w w') [] bE ?_;have hS:ae [] w w.drew:=(ae.refl _ _).drew;generalize w.drew=w1 at*;refine tk 0 ?_;refine tk 1 ?_;refine tk 2 ?_;refine aI 3 (.slice (some ⟨cb,cq,none⟩) W.length cA) rfl (fun w9 aq=>aB rfl ((aq.af h.bk (by simp)).cell rfl)) hS ?_;refine tk 4 ?_;refine tk 5 ?_;refine tk 6 ?_;refine tk 7 ?_;refine aI 8 (.int .i64 (m.next:Nat)) rfl (fun w9 aq=>aB rfl ((aq.af h.bk (by simp)).cell rfl)) hS ?_;refine bD 9 _ rfl (fun w=>bJ m.next rfl hn w) ?_;refine aI 10 (.agg (iC (1,A,B,N)).toArray) rfl (fun w9 aq=>bF (iC (1,A,B,N)) rfl (ft dN aq ik.2 (by simp))) hS ?_;refine a8 11 rfl (bO _ rfl pe ?_);intro w2 x5 gw cE an aX;refine⟨fun _=>hS.tr an,?_⟩;refine a8 12 rfl (aH (iC (1,A,B,N)) rfl pf aX (by simp[iC]) (nJ _) ?_);intro w3 cw aw aQ;rw[bs (by rfl)]at aQ;have bn:ae [] w w3:=hS.tr (an.aO aw (by omega));refine⟨fun _=>bn,?_⟩;refine bm ?_;have h3:=h.aA bn;have cD:x5∉dz b (.slice (some ⟨cb,cq,none⟩) W.length cA) ⟨sv,cl,ks,kc,ov⟩:=fun hm=>by
  have:=(h.own x5 hm).2;have:=hS.size;omega
 refine lB h3.bk ?_;refine nM ((m.next+1:Nat):Int) ?_;refine au ?_;refine aj (aH [.int .i64 ((m.next+1:Nat):Int)] rfl gC h3.bk (by simp[fg,mC]) (eK _) ?_);intro w4 cz ax a_;have t4:=h3.put (m':={m with next:=m.next+1}) (p':=p) ax a_ rfl rfl rfl;obtain⟨cy,fG⟩:=t4.af cD aQ;have t:=eZ.late bn t4;have h4:=t.1;have a_:=h4.bk;clear t4 cz ax aw cw aQ h3 aX an cE hS dN cD;refine lB cy ?_;refine aU ?_;refine oC (zr h4 aZ N) ?_;rintro v w5⟨rfl,s',t5⟩;refine au ?_;have e:bu inp (1,A,B,N) m p=({m with next:=m.next+1,stack:=m.stack++[N]},p):=rfl;rw[e];exact ay func53 rfl ⟨rfl,_,t.seq t5⟩
theorem afU{w0 w:World}{b:Nat}{W:List Is}{inp:List Int}{cv iv:Value}{r:gh}{m k:Md}{p:Pr}(h:Bw w0 w b W inp cv iv r m k p)(hs:m.state=0){A B N:Int}(hx:W[m.next]?=some (2,A,B,N))(gS:W.length≤1000000)(aZ:m.stack.length≤1000)(_:m.cells.length≤1000)(yP:0≤A)(hA:A<(m.cells.length:Int))(q:Bool):aC prog 53 [.pointer (some ⟨b,0,none⟩),.bool q] w fun v w'=>v=.bool true∧mW w0 w w' b W inp cv iv r (bu inp (2,A,B,N) m p).1 k (bu inp (2,A,B,N) m p).2:=by
 obtain⟨a,rfl⟩:∃a:Nat,A=(a:Nat):=⟨A.toNat,by omega⟩;obtain⟨sv,cl,ks,kc,ov⟩:=r;have hn:m.next<W.length:=(List.getElem?_eq_some_iff.1 hx).1;obtain⟨cb,cq,cA,cL,ik,dN⟩:=h.cd.ins.at hx;subst cL;refine aG 307 func53 ?_;refine lB h.bk ?_;refine aL ?_;refine au ?_;refine bC (fun w'=>ae [] w w') [] bE ?_;have hS:ae [] w w.drew:=(ae.refl _ _).drew;generalize w.drew=w1 at*;refine tk 0 ?_;refine tk 1 ?_;refine tk 2 ?_;refine aI 3 (.slice (some ⟨cb,cq,none⟩) W.length cA) rfl (fun w9 aq=>aB rfl ((aq.af h.bk (by simp)).cell rfl)) hS ?_;refine tk 4 ?_;refine tk 5 ?_;refine tk 6 ?_;refine tk 7 ?_;refine aI 8 (.int .i64 (m.next:Nat)) rfl (fun w9 aq=>aB rfl ((aq.af h.bk (by simp)).cell rfl)) hS ?_;refine bD 9 _ rfl (fun w=>bJ m.next rfl hn w) ?_;refine aI 10 (.agg (iC (2,((a:Nat):Int),B,N)).toArray) rfl (fun w9 aq=>bF (iC (2,((a:Nat):Int),B,N)) rfl (ft dN aq ik.2 (by simp))) hS ?_;refine a8 11 rfl (bO _ rfl pe ?_);intro w2 x5 gw cE an aX;refine⟨fun _=>hS.tr an,?_⟩;refine a8 12 rfl (aH (iC (2,((a:Nat):Int),B,N)) rfl pf aX (by simp[iC]) (nJ _) ?_);intro w3 cw aw aQ;rw[bs (by rfl)]at aQ;have bn:ae [] w w3:=hS.tr (an.aO aw (by omega));refine⟨fun _=>bn,?_⟩;refine bm ?_;have h3:=h.aA bn;have cD:x5∉dz b (.slice (some ⟨cb,cq,none⟩) W.length cA) ⟨sv,cl,ks,kc,ov⟩:=fun hm=>by
  have:=(h.own x5 hm).2;have:=hS.size;omega
 refine lB h3.bk ?_;refine nM ((m.next+1:Nat):Int) ?_;refine au ?_;refine aj (aH [.int .i64 ((m.next+1:Nat):Int)] rfl gC h3.bk (by simp[fg,mC]) (eK _) ?_);intro w4 cz ax a_;have t4:=h3.put (m':={m with next:=m.next+1}) (p':=p) ax a_ rfl rfl rfl;obtain⟨cy,fG⟩:=t4.af cD aQ;have t:=eZ.late bn t4;have h4:=t.1;have a_:=h4.bk;clear t4 cz ax aw cw aQ h3 aX an cE hS dN cD;refine lB cy ?_;refine aU ?_;have oV:a<m.cells.length:=by omega
 obtain⟨g,sU,n8,pM,Aj⟩:=h4.rc.Cs (A3 oV);simp only at n8 pM Aj;subst n8;refine bC (fun w'=>ae [] w4 w') [10] bE ?_;have hS:ae [] w4 w4.drew:=(ae.refl _ _).drew;generalize w4.drew=w5 at*;refine tk 0 ?_;refine tk 1 ?_;refine tk 2 ?_;refine tk 3 ?_;refine tk 4 ?_;refine aI 5 (.slice (some ⟨g,0,none⟩) m.cells.length sU) rfl (fun w9 aq=>aB rfl ((aq.af a_ (by simp)).cell rfl)) hS ?_;refine tk 6 ?_;refine aI 7 (.int .i64 (a:Nat)) rfl (fun w9 aq=>aB rfl ((aq.af cy (by simp)).cell rfl)) hS ?_;refine bD 8 _ rfl (fun w=>bJ a rfl oV w) ?_;refine aI 9 (.int .i64 (cellAt m.cells ((a:Nat):Int))) rfl (fun w9 aq=>aB rfl (by have:=ft Aj aq pM (by simp) 0 _ rfl;simpa using this)) hS ?_;refine dC 10 (zr (h4.aA hS) aZ (cellAt m.cells ((a:Nat):Int))) ?_;rintro v w6⟨rfl,s',t6⟩;refine⟨fun h=>absurd (by simp) h,?_⟩;refine bm ?_;refine au ?_;have e:bu inp (2,((a:Nat):Int),B,N) m p=({m with next:=m.next+1,stack:=m.stack++[cellAt m.cells ((a:Nat):Int)]},p):=rfl;rw[e];exact ay func53 rfl ⟨rfl,_,(t.aA hS).seq t6⟩
theorem afV{w0 w:World}{b:Nat}{W:List Is}{inp:List Int}{cv iv:Value}{r:gh}{m k:Md}{p:Pr}(h:Bw w0 w b W inp cv iv r m k p)(hs:m.state=0){A B N:Int}(hx:W[m.next]?=some (3,A,B,N))(gS:W.length≤1000000)(aZ:m.stack.length≤1000)(ek:m.cells.length≤1000)(h1:1≤m.stack.length)(yP:0≤A)(Rx:A+B≤(m.cells.length:Int))(q:Bool):aC prog 53 [.pointer (some ⟨b,0,none⟩),.bool q] w fun v w'=>v=.bool true∧mW w0 w w' b W inp cv iv r (bu inp (3,A,B,N) m p).1 k (bu inp (3,A,B,N) m p).2:=by
 obtain⟨a,rfl⟩:∃a:Nat,A=(a:Nat):=⟨A.toNat,by omega⟩;obtain⟨sv,cl,ks,kc,ov⟩:=r;have hn:m.next<W.length:=(List.getElem?_eq_some_iff.1 hx).1;obtain⟨cb,cq,cA,cL,ik,dN⟩:=h.cd.ins.at hx;subst cL;refine aG 307 func53 ?_;refine lB h.bk ?_;refine aL ?_;refine au ?_;refine bC (fun w'=>ae [] w w') [] bE ?_;have hS:ae [] w w.drew:=(ae.refl _ _).drew;generalize w.drew=w1 at*;refine tk 0 ?_;refine tk 1 ?_;refine tk 2 ?_;refine aI 3 (.slice (some ⟨cb,cq,none⟩) W.length cA) rfl (fun w9 aq=>aB rfl ((aq.af h.bk (by simp)).cell rfl)) hS ?_;refine tk 4 ?_;refine tk 5 ?_;refine tk 6 ?_;refine tk 7 ?_;refine aI 8 (.int .i64 (m.next:Nat)) rfl (fun w9 aq=>aB rfl ((aq.af h.bk (by simp)).cell rfl)) hS ?_;refine bD 9 _ rfl (fun w=>bJ m.next rfl hn w) ?_;refine aI 10 (.agg (iC (3,((a:Nat):Int),B,N)).toArray) rfl (fun w9 aq=>bF (iC (3,((a:Nat):Int),B,N)) rfl (ft dN aq ik.2 (by simp))) hS ?_;refine a8 11 rfl (bO _ rfl pe ?_);intro w2 x5 gw cE an aX;refine⟨fun _=>hS.tr an,?_⟩;refine a8 12 rfl (aH (iC (3,((a:Nat):Int),B,N)) rfl pf aX (by simp[iC]) (nJ _) ?_);intro w3 cw aw aQ;rw[bs (by rfl)]at aQ;have bn:ae [] w w3:=hS.tr (an.aO aw (by omega));refine⟨fun _=>bn,?_⟩;refine bm ?_;have h3:=h.aA bn;have cD:x5∉dz b (.slice (some ⟨cb,cq,none⟩) W.length cA) ⟨sv,cl,ks,kc,ov⟩:=fun hm=>by
  have:=(h.own x5 hm).2;have:=hS.size;omega
 refine lB h3.bk ?_;refine nM ((m.next+1:Nat):Int) ?_;refine au ?_;refine aj (aH [.int .i64 ((m.next+1:Nat):Int)] rfl gC h3.bk (by simp[fg,mC]) (eK _) ?_);intro w4 cz ax a_;have t4:=h3.put (m':={m with next:=m.next+1}) (p':=p) ax a_ rfl rfl rfl;obtain⟨cy,fG⟩:=t4.af cD aQ;have t:=eZ.late bn t4;have h4:=t.1;have a_:=h4.bk;clear t4 cz ax aw cw aQ h3 aX an cE hS dN cD;refine lB cy ?_;refine aU ?_;refine oC (p7 h4 (by show 0<m.stack.length;omega) aZ (aR m.stack) rfl) ?_;rintro v w5⟨rfl,s',t5⟩;have tt:=t.seq t5;have h5:=tt.1;obtain⟨kL,rl⟩:=t5.af fG cy;have cr:=h5.bk;clear a_ cy;have xi:m.stack.dropLast.length≤1000:=by simp;omega
 refine au ?_;by_cases hr:0≤aR m.stack∧aR m.stack<B
 ·obtain⟨kk,jQ⟩:∃kk:Nat,aR m.stack=(kk:Nat):=⟨(aR m.stack).toNat,by omega⟩;have e:bu inp (3,((a:Nat):Int),B,N) m p=({m with next:=m.next+1,stack:=m.stack.dropLast++[cellAt m.cells (((a+kk:Nat):Nat):Int)]},p):=by
   show(if 0≤aR m.stack∧aR m.stack<B then _ else _)=_;rw[if_pos hr,jQ];rfl
  rw[e];rw[jQ]at hr⊢;have oV:a+kk<m.cells.length:=by omega
  obtain⟨g,sU,n8,pM,Aj⟩:=h5.rc.Cs (A3 oV);simp only at n8 pM Aj;subst n8;refine aL ?_;refine lB kL ?_;refine aL ?_;refine au ?_;refine bC (fun w'=>ae [] w5 w') [12] bE ?_;have hS:ae [] w5 w5.drew:=(ae.refl _ _).drew;generalize w5.drew=w6 at*;refine tk 0 ?_;refine tk 1 ?_;refine tk 2 ?_;refine tk 3 ?_;refine tk 4 ?_;refine aI 5 (.slice (some ⟨g,0,none⟩) m.cells.length sU) rfl (fun w9 aq=>aB rfl ((aq.af cr (by simp)).cell rfl)) hS ?_;refine tk 6 ?_;refine aI 7 (.int .i64 (a:Nat)) rfl (fun w9 aq=>aB rfl ((aq.af kL (by simp)).cell rfl)) hS ?_;refine tk 8 ?_;refine uT 9 (((a+kk:Nat):Int)) rfl (by decide+kernel) rfl rfl rfl rfl rfl (by simp only[kK];omega) ?_;refine bD 10 _ rfl (fun w=>bJ (a+kk) rfl oV w) ?_;refine aI 11 (.int .i64 (cellAt m.cells ((a+kk:Nat):Int))) rfl (fun w9 aq=>aB rfl (by have:=ft Aj aq pM (by simp) 0 _ rfl;simpa using this)) hS ?_;refine dC 12 (zr (h5.aA hS) xi (cellAt m.cells ((a+kk:Nat):Int))) ?_;rintro v w7⟨rfl,s2,t7⟩;refine⟨fun h=>absurd (by simp) h,?_⟩;refine bm ?_;refine au ?_;exact ay func53 rfl ⟨rfl,_,(tt.aA hS).seq t7⟩
 ·have e:bu inp (3,((a:Nat):Int),B,N) m p=({m with next:=m.next+1,stack:=m.stack.dropLast,state:=13},p):=by
   show(if 0≤aR m.stack∧aR m.stack<B then _ else _)=_;rw[if_neg hr]
  rw[e];generalize aR m.stack=top at*;by_cases K3:top<0
  ·refine ye ?_;refine au ?_;refine aj (aH [.int .i64 13] rfl gC cr (by simp[fg,mC]) (eK _) ?_);intro wz bw kT kU;have tz:=h5.put (m':={m with next:=m.next+1,stack:=m.stack.dropLast,state:=13}) (p':=p) kT kU rfl rfl rfl;refine au ?_;exact ay func53 rfl ⟨rfl,_,tt.seq tz⟩
  ·refine aL ?_;refine lB kL ?_;refine ye ?_;refine au ?_;refine aj (aH [.int .i64 13] rfl gC cr (by simp[fg,mC]) (eK _) ?_);intro wz bw kT kU;have tz:=h5.put (m':={m with next:=m.next+1,stack:=m.stack.dropLast,state:=13}) (p':=p) kT kU rfl rfl rfl;refine au ?_;exact ay func53 rfl ⟨rfl,_,tt.seq tz⟩
end E
end Go.Proofs.YtoigoojdbpbhoagGreatDoor
