/- Texts Eng Ops Mem Ints Ops2 StrOps Own Ops3 StepB StrB StrC Bld. -/
import Derived.Orders
import Derived.Tactics
import Derived.Deep.AppendLies
import Derived.Deep.MidRow
import Derived.KernelRfl
import Derived.Recover
import Derived.Laws.Tables
import Derived.Laws.Entries
import Derived.Below
import Derived.ChangeKeysEq
import Derived.Laws.CopyRow
import Derived.Laws.StructEq
import Derived.Laws.MakeOwn
import Derived.Laws.Strings
import Derived.Lib.Builder
import Derived.Lib.AppendStr
import Derived.Lib.UnsafeStr
import Derived.Laws.Externs
namespace Go.Proofs.YtoigoojdbpbhoagGreatDoor
set_option maxRecDepth 20000
set_option maxHeartbeats 4000000
namespace E
abbrev Env:=List (Nat×Value)
def look:Env→Nat→Option Value
 |[],_=>none
 |(s,v)::r,t=>match Nat.beq s t with
  |true=>some v
  |false=>look r t
def ev(σ:Env):Operand→Option Value
 |.tmp t=>look σ t
 |.const v=>some v
 |.global g=>some (.pointer (some ⟨g,0,none⟩))
 |.func f=>some (.func (.func f) #[] #[])
def tq(σ:Env):List Operand→Option (List Value)
 |[]=>some []
 | x::r=>match ev σ x with
  |none=>none
  |some v=>match tq σ r with
   |none=>none
   |some vs=>some (v::vs)
structure Fr(n:Nat)(σ:Env)(a:Act):Prop where
 size:a.tmps.size=n
 has:∀t v,look σ t=some v→a.tmps[t]?=some v
def put(σ:Env)(d:Option Tmp)(v:Value):Env:=
 match d with
 |some d=>(d,v)::σ
 |none=>σ
def fJ(n:Nat)(d:Option Tmp):Bool:=
 match d with
 |some d=>Nat.blt d n
 |none=>true
theorem NH(p:Nat×Value)(r:Env)(t:Nat):look (p::r) t=if p.1=t then some p.2 else look r t:=by
 obtain⟨s,v⟩:=p;by_cases h:s=t
 ·subst h;simp[look]
 ·have hb:Nat.beq s t=false:=by
   cases hb:Nat.beq s t with
   |false=>rfl
   |true=>exact absurd (Nat.eq_of_beq_eq_true hb) h
  simp[look,hb,h]
theorem Fr.put{n:Nat}{σ:Env}{a:Act}(h:Fr n σ a)(d:Option Tmp)(v:Value)(hd:fJ n d=true):Fr n (E.put σ d v) (a.put d v):=by
 cases d with
 |none=>exact h
 | some d=>
  have az:d<n:=by simpa[fJ,Nat.blt_eq]using hd
  refine⟨by simpa[Act.put]using h.size,fun t u hu=>?_⟩;simp only[E.put,NH]at hu;by_cases e:d=t
  ·subst e;rw[if_pos rfl]at hu;cases hu;simp[Act.put,h.size,az]
  ·rw[if_neg e]at hu;simp only[Act.put];rw[Array.getElem?_setIfInBounds_ne e];exact h.has t u hu
theorem Fr.eval{n:Nat}{σ:Env}{a:Act}(h:Fr n σ a){x:Operand}{v:Value}(hx:ev σ x=some v):a.eval x=v:=by
 cases x with
 |tmp t=>
  have:=h.has t v hx;simp[Act.eval,this]
 |const u=>simpa[ev,Act.eval]using hx
 |global g=>simpa[ev,Act.eval]using hx
 |func f=>simpa[ev,Act.eval]using hx
theorem Fr.DY{n:Nat}{σ:Env}{a:Act}(h:Fr n σ a):∀{xs:List Operand} {vs:List Value},tq σ xs=some vs→xs.map a.eval=vs
 |[],vs,hv=>by simp[tq]at hv;subst hv;rfl
 | x::r,vs,hv=>by
  simp only[tq]at hv;cases hx:ev σ x with
  |none=>simp[hx]at hv
  | some v=>
   cases hr:tq σ r with
   |none=>simp[hx,hr]at hv
   |some us=>
    simp only[hx,hr,Option.some.injEq]at hv;subst hv;simp[h.eval hx,h.DY hr]
def Sub:Env→Env→Prop
 |[],_=>True
 |p::r,σ=>look σ p.1=some p.2∧Sub r σ
theorem Sub.look{σ:Env}:∀{σ':Env},Sub σ' σ→∀t v,E.look σ' t=some v→E.look σ t=some v
 |[],_,t,v,h=>by simp[E.look]at h
 | p::r,hs,t,v,h=>by
  rw[NH]at h;by_cases e:p.1=t
  ·rw[if_pos e]at h;cases h;rw[←e];exact hs.1
  ·rw[if_neg e]at h;exact Sub.look hs.2 t v h
theorem Fr.sub{n:Nat}{σ σ':Env}{a:Act}(h:Fr n σ a)(hs:Sub σ' σ):Fr n σ' a:=⟨h.size,fun t v hv=>h.has t v (hs.look t v hv)⟩
structure pC where
 kind:CallKind
 defers:List Deferred
 out:Ending→World→Prop
def Cq(v:Value):List PanicEntry:=[{v:=v,recovered:=false}]
def oQ(K Kp:Value→World→Prop):pC:=⟨.normal,[],fun e w=>(∃v,e=.returned v∧K v w)∨∃v,e=.panicked (Cq v)∧Kp v w⟩
abbrev ZI(K:Value→World→Prop):pC:=oQ K fun _ _=>False
theorem put_defers(a:Act)(d:Option Tmp)(v:Value):(a.put d v).defers=a.defers:=by cases d<;>rfl
def HC(k:CallKind)(fr:Frame):Ending→Prop
 |.returned _=>fr.kind=k
 |_=>fr.kind=k∨k=.normal
def wT(P:Program)(f:FuncId)(todo:List Item)(R:pC)(a:Act)(w:World):Prop:=
 ∀(b:Frame) (cs:List Frame),b.fn=f→b.kind=R.kind→
  ∃e w' fr,R.out e w'∧Comes P (lone (b.at a todo) cs w) (lone fr cs w') e∧fr.fn=f∧HC R.kind fr e∧fr.going P w' e
def Rn(P:Program)(f n:Nat)(todo:List Item)(R:pC)(σ:Env)(w:World):Prop:=∀a,Fr n σ a→a.defers=R.defers→wT P f todo R a w
def aC(P:Program)(f:FuncId)(args:List Value)(w:World)(R:Value→World→Prop):Prop:=
 Calls P f args.toArray w fun e w'=>∃v,e=.returned v∧R v w'
theorem aC.mono{P:Program}{f:FuncId}{args:List Value}{w:World}{R R':Value→World→Prop}(h:aC P f args w R)(hr:∀v w',R v w'→R' v w'):aC P f args w R':=
 Calls.mono h fun _ _ ⟨v,he,hR⟩=>⟨v,he,hr _ _ hR⟩
def End(P:Program)(f:FuncId)(args:List Value)(w:World)(K Kp:Value→World→Prop):Prop:=Calls P f args.toArray w (oQ K Kp).out
theorem End.mono{P:Program}{f:FuncId}{args:List Value}{w:World}{K Kp K' Kp':Value→World→Prop}(h:End P f args w K Kp)(hr:∀v w',K v w'→K' v w')(hp:∀v w',Kp v w'→Kp' v w'):End P f args w K' Kp':=
 Calls.mono h fun _ _ h=>h.elim (fun⟨v,he,hR⟩=>.inl ⟨v,he,hr _ _ hR⟩) fun⟨v,he,hR⟩=>.inr ⟨v,he,hp _ _ hR⟩
theorem End.ret{P:Program}{f:FuncId}{args:List Value}{w:World}{K:Value→World→Prop}(h:End P f args w K fun _ _=>False):aC P f args w K:=
 Calls.mono h fun _ _ h=>h.elim id fun⟨_,_,hR⟩=>hR.elim
def wD:List Value→Nat→Env
 |[],_=>[]
 |v::r,i=>(i,v)::wD r (i+1)
theorem Np:∀(l:List Value) (i t:Nat) (v:Value),look (wD l i) t=some v→i≤t∧l[t-i]?=some v
 |[],_,_,_,h=>by simp[wD,look]at h
 | u::r,i,t,v,h=>by
  simp only[wD,NH]at h;by_cases e:i=t
  ·subst e;simp at h;subst h;simp
  ·rw[if_neg e]at h;have:=Np r (i+1) t v h;refine⟨by omega,?_⟩;have e2:t-i=(t-(i+1))+1:=by omega
   rw[e2,List.getElem?_cons_succ];exact this.2
theorem Frame.aey{P:Program}{fr:Frame}{w:World}{e:Ending}(hk:HC .normal fr e)(h:fr.going P w e):fr.leaving P w e:=by
 cases e with
 |returned v=>exact⟨h.1,h.2.1,hk,h.2.2⟩
 |panicked chain=>exact h
 |outgrown=>trivial
theorem ahr{P:Program}{f:FuncId}{fn:Func}{c:Code}{args:List Value}{w:World}{R:pC}(n:Nat) (hf:P.funcs[f]?=some fn)(hb:fn.body=some c)(hn:fn.ntmps=n)(hl:args.length≤n)(hk:R.kind=.normal)(hd:R.defers=[]) (h:Rn P f n [.code c] R (wD args 0) w):Calls P f args.toArray w R.out:=by
 intro cs
 let b:Frame:={(default:Frame)with fn:=f,kind:=.normal}
 have OX:Frame.enter P f args.toArray .normal=
   b.at {tmps:=args.toArray++Array.replicate (fn.ntmps-args.toArray.size) undef,defers:=[]} [.code c]:=by
  simp[Frame.enter,Frame.at,hf,hb,b]
 obtain⟨e,w',fr,hR,hs,tu,aK,vr⟩:=h {tmps:=args.toArray++Array.replicate (fn.ntmps-args.toArray.size) undef,defers:=[]}
  ⟨by simp[hn];omega,fun t v hv=>by
   have:=(Np args 0 t v hv).2;simp only[Nat.sub_zero]at this;have az:t<args.length:=(List.getElem?_eq_some_iff.1 this).1;rw[Array.getElem?_append_left (by simpa using az)];simpa using this⟩ hd.symm b cs rfl hk.symm
 rw[←OX]at hs;exact⟨e,w',fr,hR,hs,tu,Frame.aey (hk▸aK) vr⟩
theorem Yw{P:Program}{f:FuncId}{fn:Func}{c:Code}{args:List Value}{w:World}{K Kp:Value→World→Prop}(n:Nat)
  (hf:P.funcs[f]?=some fn)(hb:fn.body=some c)(hn:fn.ntmps=n)(hl:args.length≤n)
  (h:Rn P f n [.code c] (oQ K Kp) (wD args 0) w):End P f args w K Kp:=ahr n hf hb hn hl rfl rfl h
theorem akF{P:Program}{f:FuncId}{fn:Func}{c:Code}{args:List Value}{w:World}{R:Value→World→Prop}(n:Nat)
  (hf:P.funcs[f]?=some fn)(hb:fn.body=some c)(hn:fn.ntmps=n)(hl:args.length≤n)
  (h:Rn P f n [.code c] (ZI R) (wD args 0) w):aC P f args w R:=(Yw n hf hb hn hl h).ret
section
variable{P:Program}{f n:Nat}{k:List Item}{R:pC}{σ:Env}{w:World}
theorem wT.step{a:Act}{todo Y4:List Item}(hs:∀(b:Frame) cs,step P (lone (b.at a todo) cs w)=.next (lone (b.at a Y4) cs w))(h:wT P f Y4 R a w):wT P f todo R a w:=
 fun b cs hb hk=>let⟨e,w',fr,hR,aZ,r⟩:=h b cs hb hk;⟨e,w',fr,hR,Comes.of_steps (.one (hs b cs)) aZ,r⟩
theorem bT{x y:Code}(h:Rn P f n (.code x::.code y::k) R σ w):Rn P f n (.code (.seq x y)::k) R σ w:=fun a ha hd=>(h a ha hd).step fun _ _=>step_seq
theorem tU(h:Rn P f n k R σ w):Rn P f n (.code .skip::k) R σ w:=fun a ha hd=>(h a ha hd).step fun _ _=>step_skip
theorem pc{id:Nat}{c:Code}(h:Rn P f n (.code c::.inBlock id::k) R σ w):Rn P f n (.code (.block id c)::k) R σ w:=fun a ha hd=>(h a ha hd).step fun _ _=>step_block
theorem xT{id:Nat}(h:Rn P f n k R σ w):Rn P f n (.inBlock id::k) R σ w:=fun a ha hd=>(h a ha hd).step fun _ _=>step_inBlock
theorem x_{id:Nat}{k':List Item}(hk:exitTo id k=some k')(h:Rn P f n k' R σ w):Rn P f n (.code (.exit id)::k) R σ w:=fun a ha hd=>(h a ha hd).step fun _ _=>step_exit hk
theorem ajg{c:Code}(h:Rn P f n (.code c::.inLoop c::k) R σ w):Rn P f n (.code (.loop c)::k) R σ w:=fun a ha hd=>(h a ha hd).step fun _ _=>step_loop
theorem afH{c:Code}(h:Rn P f n (.code c::.inLoop c::k) R σ w):Rn P f n (.inLoop c::k) R σ w:=fun a ha hd=>(h a ha hd).step fun _ _=>step_inLoop
theorem Xy{c:Operand}{x y:Code}{t:Bool}(hc:ev σ c=some (.bool t))(h:Rn P f n (.code (if t then x else y)::k) R σ w):Rn P f n (.code (.cond c x y)::k) R σ w:=
 fun a ha hd=>(h a ha hd).step fun _ _=>step_cond (ha.eval hc)
theorem tV{c:Operand}{x y:Code}(hc:ev σ c=some (.bool true))(h:Rn P f n (.code x::k) R σ w):Rn P f n (.code (.cond c x y)::k) R σ w:=Xy hc h
theorem tS{c:Operand}{x y:Code}(hc:ev σ c=some (.bool false))(h:Rn P f n (.code y::k) R σ w):Rn P f n (.code (.cond c x y)::k) R σ w:=Xy hc h
theorem bj{todo:List Item}{σ':Env}(hs:Sub σ' σ)(h:Rn P f n todo R σ' w):Rn P f n todo R σ w:=fun a ha hd=>h a (ha.sub hs) hd
theorem fx{c:Item}(I:Env→World→Prop)(Pk:∀σ' w',I σ' w'→Rn P f n k R σ' w')(Pm:(∀σ' w',I σ' w'→Rn P f n k R σ' w')→Rn P f n (c::k) R σ w):Rn P f n (c::k) R σ w:=Pm Pk
theorem cP{c:Code}(I:Nat→Env→World→Prop)(m:Nat)(σ':Env)(hs:Sub σ' σ)(h0:I m σ' w) (zI:∀m σ w,(∀m' σ' w',m'<m→I m' σ' w'→Rn P f n (.inLoop c::k) R σ' w')→I m σ w→Rn P f n (.code c::.inLoop c::k) R σ w):Rn P f n (.code (.loop c)::k) R σ w:=by
 have key:∀m σ w,I m σ w→Rn P f n (.code c::.inLoop c::k) R σ w:=by
  intro m;induction m using Nat.strongRecOn with
  |_ m ih=>exact fun σ w hI=>zI m σ w (fun m' σ' w' az hI'=>afH (ih m' az σ' w' hI')) hI
 exact bj hs (ajg (key m σ' w h0))
theorem Uq{a:Act}{fn:Func}{v:Value}(hf:P.funcs[f]?=some fn)(hd:a.defers=[])(hr:(results fn a.tmps).run P w=.ok v w)(hR:R.out (.returned v) w):wT P f (.code .ret::k) R a w:=
 fun b _ hb hk=>⟨.returned v,w,_,hR,Steps.one step_ret,hb,hk,rfl,hd,fn,by simpa[Frame.at,hb]using hf,hr⟩
theorem TN{a:Act}{fn:Func}{v:Value}(hf:P.funcs[f]?=some fn)(hd:a.defers=[])(hr:(results fn a.tmps).run P w=.ok v w)(hR:R.out (.returned v) w):wT P f [] R a w:=
 fun b _ hb hk=>⟨.returned v,w,_,hR,Steps.one step_end,hb,hk,rfl,hd,fn,by simpa[Frame.at,hb]using hf,hr⟩
theorem JC{a:Act}{fn:Func}{v:Value}{K Kp:Value→World→Prop}(hf:P.funcs[f]?=some fn)(hd:a.defers=[])(hr:(results fn a.tmps).run P w=.ok v w)(hR:K v w):wT P f (.code .ret::k) (oQ K Kp) a w:=
 Uq hf hd hr (.inl ⟨v,rfl,hR⟩)
def HD(P:Program)(σ:Env)(w:World)(rs:Array ResultVar)(v:Value):Prop:=
 (∃t,rs=#[.tmp t]∧look σ t=some v)∨
 (rs=#[]∧v=.tuple #[])∨
 (∃t ty ad,rs=#[.cell t ty]∧look σ t=some (.pointer (some ad))∧(loadVar ty ad).run P w=.ok v w)∨
 (∃t ty ad u x y,rs=#[.cell t ty,.tmp u]∧look σ t=some (.pointer (some ad))∧(loadVar ty ad).run P w=.ok x w∧look σ u=some y∧v=.tuple #[x,y])∨
 (∃t u x y,rs=#[.tmp t,.tmp u]∧look σ t=some x∧look σ u=some y∧v=.tuple #[x,y])
theorem HD.run{a:Act}{fn:Func}{v:Value}(ha:Fr n σ a)(h:HD P σ w fn.results v):(results fn a.tmps).run P w=.ok v w:=by
 rcases h with⟨t,hr,hl⟩|⟨hr,rfl⟩|⟨t,ty,ad,hr,hl,hv⟩|⟨t,ty,ad,u,x,y,hr,hl,hx,hu,rfl⟩|⟨t,u,x,y,hr,hx,hy,rfl⟩
 ·simp only[results,hr];simp[ha.has t v hl]
 ·simp only[results,hr];simp
 ·simp only[results,hr];simp[ha.has t _ hl,asAddr,hv]
 ·simp only[results,hr];simp[ha.has t _ hl,ha.has u _ hu,asAddr,hx]
 ·simp only[results,hr];simp[ha.has t _ hx,ha.has u _ hy]
theorem df{fn:Func}{v:Value}{K Kp:Value→World→Prop}(hf:P.funcs[f]?=some fn)(hr:HD P σ w fn.results v)(hR:K v w):Rn P f n (.code .ret::k) (oQ K Kp) σ w:=
 fun _ ha hd=>Uq hf hd (hr.run ha) (.inl ⟨v,rfl,hR⟩)
theorem akG{fn:Func}{v:Value}{K Kp:Value→World→Prop}(hf:P.funcs[f]?=some fn)(hr:HD P σ w fn.results v)(hR:K v w):Rn P f n [] (oQ K Kp) σ w:=
 fun _ ha hd=>TN hf hd (hr.run ha) (.inl ⟨v,rfl,hR⟩)
theorem JW{fn:Func}{v:Value}(hf:P.funcs[f]?=some fn)(hD:R.defers=[])(hr:HD P σ w fn.results v)(hR:R.out (.returned v) w):Rn P f n [] R σ w:=
 fun _ ha hd=>TN hf (hd.trans hD) (hr.run ha) hR
theorem Frame.ahs{P:Program}{fr:Frame}{w:World}{e:Ending}(h:fr.leaving P w e):fr.going P w e:=by
 cases e with
 |returned v=>exact⟨h.1,h.2.1,h.2.2.2⟩
 |panicked chain=>exact h
 |outgrown=>trivial
theorem TP{a:Act}{fn:Func}(hf:P.funcs[f]?=some fn)(hk:R.kind=.normal)(u:FrameMode)(h:Leaves P fn a.tmps R.out a.defers u w)(fr:Frame)(cs:List Frame)(h1:fr.fn=f)(h2:fr.kind=R.kind)(h3:fr.mode=u)(h4:fr.defers=a.defers)(h5:fr.tmps=a.tmps):∃e w' qt,R.out e w'∧Comes P (lone fr cs w) (lone qt cs w') e∧qt.fn=f∧HC R.kind qt e∧qt.going P w' e:=by
 obtain⟨e,w',qt,hR,hs,tu,hl⟩:=leaves_steps a.defers u w fr cs h3 h4 h5 (by rw[h1];exact hf) (h2.trans hk) h;refine⟨e,w',qt,hR,hs,tu.trans h1,?_,Frame.ahs hl⟩;cases e with
 |returned v=>exact hl.2.2.1.trans hk.symm
 |panicked chain=>exact .inr hk
 |outgrown=>exact .inr hk
theorem Xz{fn:Func}(hf:P.funcs[f]?=some fn)(hk:R.kind=.normal)(h:∀a,Fr n σ a→Leaves P fn a.tmps R.out R.defers .returning w):Rn P f n (.code .ret::k) R σ w:=fun a ha hd b cs hb q9=>by
 obtain⟨e,w',fr,hR,hs,r⟩:=TP hf hk .returning (hd▸h a ha) {b.at a (.code .ret::k)with mode:=.returning} cs hb q9 rfl rfl rfl;exact⟨e,w',fr,hR,Comes.of_steps (Steps.one step_ret) hs,r⟩
def Qn(P:Program)(f:Nat)(k:List Item)(R:pC):Exit→Act→World→Prop:=fun e a w=>
 (e=.normal∧wT P f k R a w)∨∃ch,e=.panic ch∧∃fn,P.funcs[f]?=some fn∧(a.defers=[]∨R.kind=.normal)∧Leaves P fn a.tmps R.out a.defers (.panicking ch) w
theorem aez{a:Act}{fn:Func}{ch:List PanicEntry}(hf:P.funcs[f]?=some fn)(hk:a.defers=[]∨R.kind=.normal)(h:Leaves P fn a.tmps R.out a.defers (.panicking ch) w)(fr:Frame)(cs:List Frame)(h1:fr.fn=f)(h2:fr.kind=R.kind)(h3:fr.mode=.panicking ch)(h4:fr.defers=a.defers)(h5:fr.tmps=a.tmps):∃e w' qt,R.out e w'∧Comes P (lone fr cs w) (lone qt cs w') e∧qt.fn=f∧HC R.kind qt e∧qt.going P w' e:=by
 rcases hk with hd|hk
 ·rw[hd]at h;exact⟨.panicked ch,w,fr,h,Steps.refl P _,h1,.inl h2,h3,h4.trans hd,fn,by rw[h1];exact hf⟩
 ·exact TP hf hk _ h fr cs h1 h2 h3 h4 h5
theorem Ts{a':Act}{e:Exit}{w':World}{b:Frame}{cs:List Frame}{m:Machine}(hq:Qn P f k R e a' w')(zV:Arrives P m b k cs e a' w')(hb:b.fn=f)(hk:b.kind=R.kind):∃e w' fr,R.out e w'∧Comes P m (lone fr cs w') e∧fr.fn=f∧HC R.kind fr e∧fr.going P w' e:=by
 rcases hq with⟨rfl,hr⟩|⟨ch,rfl,fn,hf,aK,hl⟩
 ·obtain⟨e,cg,fr,hR,hs,r⟩:=hr b cs hb hk;exact⟨e,cg,fr,hR,Comes.of_steps zV hs,r⟩
 ·obtain⟨todo,hs⟩:=zV;obtain⟨e,cg,fr,hR,EG,r⟩:=aez hf aK hl {b.at a' todo with mode:=.panicking ch} cs hb hk rfl rfl rfl;exact⟨e,cg,fr,hR,Comes.of_steps hs EG,r⟩
theorem TQ{id:Nat}{ops:Array Oper}{d:Bool}{a:Act}(h:(Code.region id ops d).wp P (Qn P f k R) a w):wT P f (.code (.region id ops d)::k) R a w:=by
 intro b cs hb hk;obtain⟨e,a',w',hq,zV⟩:=h b k cs;exact Ts hq zV hb hk
def guardOf(ops:Array Oper)(σ:Env)(g:Option (Nat×Bool)):Option Bool:=
 match g with
 |none=>some true
 | some (j,want)=>match(ops[j]?).bind (·.dst)with
  |none=>none
  |some t=>match look σ t with
   |some (.bool b)=>some (b==want)
   |some (.tuple _)=>some false
   |_=>none
theorem sB{ops:Array Oper}{a:Act}{o:Oper}{b:Bool}(ha:Fr n σ a)(h:guardOf ops σ o.guard=some b):Region.wanted o (yielded ops a.tmps)=b:=by
 unfold Region.wanted;unfold guardOf at h;split at h
 ·rename_i hg;rw[hg];simpa using h
 ·rename_i j want hg
  rw[hg];split at h
  ·cases h
  ·rename_i t ht
   simp only[yielded,ht,Option.bind_some];split at h
   ·rename_i b' iT
    rw[ha.has t _ iT];simpa using h
   ·rename_i vs iT
    rw[ha.has t _ iT];simpa using h
   ·cases h
def iE(P:Program)(n:Nat)(σ:Env)(o:Oper)(w:World)(K:Value→World→Prop):Prop:=
 ∀a,Fr n σ a→∀(next:Act→World→Prop) (Q:Exit→Act→World→Prop),(∀v w',K v w'→next (a.put o.dst v) w')→o.wp P a w next Q
def cS(P:Program)(n:Nat)(σ:Env)(o:Oper)(w:World)(v:Value):Prop:=∀a,Fr n σ a→(execOp a.eval o).run P w=.ok (.value v) w
theorem cS.ams{o:Oper}{v:Value}{K:Value→World→Prop}(h:cS P n σ o w v)(hK:K v w):iE P n σ o w K:=fun a ha next Q hn=>by
 simp only[Oper.wp,h a ha,Oper.upon];exact hn v w hK
theorem wm{o:Oper}{v:Value}{w':World}{K:Value→World→Prop}(h:∀a,Fr n σ a→(execOp a.eval o).run P w=.ok (.value v) w')(hK:K v w'):iE P n σ o w K:=fun a ha next Q hn=>by
 simp only[Oper.wp,h a ha,Oper.upon];exact hn v w' hK
theorem afI{o:Oper}{w':World}{K:Value→World→Prop}(h:∀a,Fr n σ a→(execOp a.eval o).run P w=.ok .skip w')(hK:K undef w'):iE P n σ o w K:=fun a ha next Q hn=>by
 simp only[Oper.wp,h a ha,Oper.upon];exact hn undef w' hK
def EH(P:Program)(n:Nat)(σ:Env)(o:Oper)(w:World)(K Kp:Value→World→Prop):Prop:=
 ∀a,Fr n σ a→∀(next:Act→World→Prop) (Q:Exit→Act→World→Prop),(∀v w',K v w'→next (a.put o.dst v) w')→(∀v w',Kp v w'→Q (.panic (Cq v)) a w')→o.wp P a w next Q
theorem afJ{o:Oper}{v:Value}{w':World}{K Kp:Value→World→Prop}(h:∀a,Fr n σ a→(execOp a.eval o).run P w=.halt (.panic v) w')(hK:Kp v w'):EH P n σ o w K Kp:=fun a ha next Q _ hp=>by
 simp only[Oper.wp,h a ha,Oper.upon];exact hp v w' hK
def Pl(P:Program)(f n:Nat)(ops:Array Oper)(k:List Item)(R:pC)(l:List Oper)(σ:Env)(w:World):Prop:=∀a,Fr n σ a→a.defers=R.defers→wpList P ops (Qn P f k R) l a w
theorem cH{id:Nat}{l:List Oper}(h:Pl P f n l.toArray k R l σ w):Rn P f n (.code (.region id l.toArray false)::k) R σ w:=
 fun a ha hd=>TQ (wp_region_lit (h a ha hd))
theorem fP{ops:Array Oper}(h:Rn P f n k R σ w):Pl P f n ops k R [] σ w:=fun a ha hd=>.inl ⟨rfl,h a ha hd⟩
theorem Pn{ops:Array Oper}{o:Oper}{l:List Oper}(hg:guardOf ops σ o.guard=some true)(hd:fJ n o.dst=true)
  (h:iE P n σ o w fun v w'=>Pl P f n ops k R l (put σ o.dst v) w'):Pl P f n ops k R (o::l) σ w:=fun a ha ff=>by
 unfold wpList;rw[if_pos (sB ha hg)];exact .inl (h a ha _ _ fun v w' hv=>hv _ (ha.put _ v hd) ((put_defers _ _ _).trans ff))
theorem zC{ops:Array Oper}{o:Oper}{l:List Oper}(v:Value)(hg:guardOf ops σ o.guard=some true)(hd:fJ n o.dst=true)
  (hv:cS P n σ o w v)(h:Pl P f n ops k R l (put σ o.dst v) w):Pl P f n ops k R (o::l) σ w:=Pn hg hd (hv.ams h)
theorem uS{ops:Array Oper}{o:Oper}{l:List Oper}(hg:guardOf ops σ o.guard=some false)(hd:fJ n o.dst=true)
  (h:Pl P f n ops k R l (put σ o.dst undef) w):Pl P f n ops k R (o::l) σ w:=fun a ha ff=>by
 unfold wpList;rw[if_neg (by rw[sB ha hg];simp)];exact h _ (ha.put _ _ hd) ((put_defers _ _ _).trans ff)
theorem dW{ops:Array Oper}{o:Oper}{l:List Oper}{fn:Func}{K Kp:Value→World→Prop}(hf:P.funcs[f]?=some fn)(hg:guardOf ops σ o.guard=some true)(hd:fJ n o.dst=true)
  (h:EH P n σ o w (fun v w'=>Pl P f n ops k (oQ K Kp) l (put σ o.dst v) w') Kp):Pl P f n ops k (oQ K Kp) (o::l) σ w:=fun a ha ff=>by
 unfold wpList;rw[if_pos (sB ha hg)];refine .inl (h a ha _ _ (fun v w' hv=>hv _ (ha.put _ v hd) ((put_defers _ _ _).trans ff)) fun v w' hv=>.inr ⟨_,rfl,fn,hf,.inl ff,?_⟩);rw[ff];exact .inr ⟨v,rfl,hv⟩
theorem OY{ops:Array Oper}{o:Oper}{l:List Oper}{fn:Func}(hf:P.funcs[f]?=some fn)(hk:R.kind=.normal)(hg:guardOf ops σ o.guard=some true)(hd:fJ n o.dst=true)
  (h:EH P n σ o w (fun v w'=>Pl P f n ops k R l (put σ o.dst v) w') (fun v w'=>∀a,Fr n σ a→Leaves P fn a.tmps R.out R.defers (.panicking (Cq v)) w')):Pl P f n ops k R (o::l) σ w:=fun a ha ff=>by
 unfold wpList;rw[if_pos (sB ha hg)];refine .inl (h a ha _ _ (fun v w' hv=>hv _ (ha.put _ v hd) ((put_defers _ _ _).trans ff)) fun v w' hv=>.inr ⟨_,rfl,fn,hf,.inr hk,?_⟩);rw[ff];exact hv a ha
theorem Wb{ops:Array Oper}{o:Oper}{l:List Oper}{d:Deferred}(hg:guardOf ops σ o.guard=some true)(hd:fJ n o.dst=true)(uY:∀a,Fr n σ a→(execOp a.eval o).run P w=.ok (.defer d) w)
  (h:Pl P f n ops k ⟨R.kind,d::R.defers,R.out⟩ l (put σ o.dst undef) w):Pl P f n ops k R (o::l) σ w:=fun a ha ff=>by
 unfold wpList;rw[if_pos (sB ha hg)];refine .inl ?_;simp only[Oper.wp,uY a ha,Oper.upon];have Rm:Fr n σ {a with defers:=d::a.defers}:=⟨ha.size,ha.has⟩;exact h _ (Rm.put _ undef hd) (by rw[put_defers,ff])
end
section
variable{P:Program}{ops:Array Oper}{Q:Exit→Act→World→Prop}{S:World→Prop}{T:List Nat}
def BY(P:Program)(ops:Array Oper)(Q:Exit→Act→World→Prop)(S:World→Prop)(T:List Nat):Nat→Array Bool→Act→World→Prop
 |0,listed,a,w=>Region.ready .any ops listed=[]∧Q .normal a w
 |fuel+1,listed,a,w=>
  (Region.ready .any ops listed=[]→Q .normal a w)∧
  ∀i∈Region.ready .any ops listed,wpOp P ops Q i (fun a' w'=>(i∉T→S w→S w')∧BY P ops Q S T fuel (listed.setIfInBounds i true) a' w') a w
theorem Wc:∀(fuel:Nat) (listed:Array Bool) (a:Act) (w:World),BY P ops Q S T fuel listed a w→wpAny P .any ops Q fuel listed a w
 |0,_,_,_,h=>h
 |fuel+1,_,_,_,h=>⟨h.1,fun i hi=>wpOp_mono (fun a' w' h'=>Wc fuel _ a' w' h'.2) (h.2 i hi)⟩
def yf(ops:Array Oper)(listed:Array Bool):Prop:=
 ∀j o,ops[j]?=some o→listed.getD j false=true→∀e∈o.after,Region.binds .any e=true→listed.getD e.on false=true
theorem yf.set{listed:Array Bool}(h:yf ops listed){i:Nat}(hi:i∈Region.ready .any ops listed):yf ops (listed.setIfInBounds i true):=by
 intro j o ho hj e he hb;obtain⟨_,oi,hoi,kJ⟩:=mem_ready.1 hi;refine getD_set_true ?_;by_cases uq:i=j
 ·subst uq;rw[hoi]at ho;cases ho;exact kJ e he hb
 ·rw[getD_set_ne false uq]at hj;exact h j o ho hj e he hb
def reach(ops:Array Oper)(i:Nat):Nat→Nat→Bool
 |0,_=>false
 |fuel+1,t=>match ops[t]?with
  |some o=>o.after.any fun e=>Region.binds .any e&&(e.on==i||reach ops i fuel e.on)
  |none=>false
theorem Ur{listed:Array Bool}{i:Nat}(hc:yf ops listed):∀(fuel t:Nat) (o:Oper),ops[t]?=some o→(∀e∈o.after,Region.binds .any e=true→listed.getD e.on false=true)→reach ops i fuel t=true→listed.getD i false=true
 |0,_,_,_,_,h=>by simp[reach]at h
 | fuel+1,t,o,ho,kJ,h=>by
  unfold reach at h;simp only[ho]at h;obtain⟨e,he,hb⟩:=Array.any_eq_true'.1 h;simp only[Bool.and_eq_true,Bool.or_eq_true,beq_iff_eq]at hb;have hl:=kJ e he hb.1;rcases hb.2 with h1|h1
  ·rw[←h1];exact hl
  ·cases tw:ops[e.on]?with
   |none=>
    cases fuel with
    |zero=>simp[reach]at h1
    |succ fuel=>simp[reach,tw]at h1
   |some oe=>exact Ur hc fuel e.on oe tw (hc e.on oe tw hl) h1
theorem aeA{D:World→Prop}{i:Nat}{oi:Oper}{v:Value}(hi:ops[i]?=some oi)(ZJ:∀(j:Nat) (o:Oper) cs b,ops[j]?=some o→o.op≠.select cs b) (hQ:∀c a w,Q (.panic c) (a.put oi.dst v) w→Q (.panic c) a w) (hDj:∀(listed:Array Bool) j,yf ops listed→listed.getD i false=false→j∈Region.ready .any ops listed→∀w w',D w→(j∉T→S w→S w')→D w'):∀(fuel:Nat) (listed:Array Bool) (a:Act) (w:World),yf ops listed→(∀j oj,ops[j]?=some oj→j≠i→listed.getD j true=false→(∀e∈oj.after,Region.binds .any e=true→e.on≠i)→oi.apart ops oj=true)→i∈Region.ready .any ops listed→YieldsIf P ops D oi v a→D w→BY P ops Q S T fuel (listed.setIfInBounds i true) (a.put oi.dst v) w→BY P ops Q S T (fuel+1) listed a w:=by
 intro fuel;induction fuel with
 | zero=>
  intro listed a w _ _ hr hy hD H;refine⟨fun h=>(by rw[h]at hr;cases hr),fun j hj=>?_⟩;by_cases uq:j=i
  ·subst uq;exact hy.wpOp hi hD ⟨fun _ hS=>hS,H⟩
  ·have:=ready_mono hj uq;rw[H.1]at this;cases this
 | succ fuel ih=>
  intro listed a w ek BF hr hy hD H;refine⟨fun h=>(by rw[h]at hr;cases hr),fun j hj=>?_⟩;by_cases uq:j=i
  ·subst uq;exact hy.wpOp hi hD ⟨fun _ hS=>hS,H⟩
  ·have h1:=H.2 j (ready_mono hj uq);obtain⟨ZK,oj,HE,kJ⟩:=mem_ready.1 hj;have amt:∀e∈oj.after,Region.binds .any e=true→e.on≠i:=fun e he hb heq=>by
    have h1:=kJ e he hb;have h0:=(mem_ready.1 hr).1;rw[heq]at h1;rcases Nat.lt_or_ge i listed.size with h'|h'
    ·simp[h']at h0 h1;rw[h0]at h1;cases h1
    ·simp[Array.getElem?_eq_none h']at h1
   have hfj:=BF j oj HE uq ZK amt;have fF:listed.getD i false=false:=by
    have h0:=(mem_ready.1 hr).1;rcases Nat.lt_or_ge i listed.size with h'|h'
    ·simp[h']at h0⊢;exact h0
    ·simp[Array.getElem?_eq_none h']
   have h2:=wpOp_putIf HE hfj (fun cs b=>ZJ i oi cs b hi) (fun cs b=>ZJ j oj cs b HE) hQ hy h1;have akH:∀k ok,ops[k]?=some ok→k≠i→(listed.setIfInBounds j true).getD k true=false→
     (∀e∈ok.after,Region.binds .any e=true→e.on≠i)→oi.apart ops ok=true:=fun k ok hk Ah LU ku=>by
    refine BF k ok hk Ah ?_ ku;by_cases HF:j=k
    ·subst HF;exact ZK
    ·rw[getD_set_ne true HF]at LU;exact LU
   refine wpOp_mono (fun a' w' h3=>⟨h3.2.1,ih (listed.setIfInBounds j true) a' w' (ek.set hj) akH (ready_mono hr (Ne.symm uq)) h3.1 (hDj listed j ek fF hj w w' hD h3.2.1) ?_⟩) h2;rw[Array.setIfInBounds_comm _ _ uq];exact h3.2.2
theorem TT{S':World→Prop}{T':List Nat}:∀(fuel:Nat) (listed:Array Bool) (a:Act) (w:World),
  (∀j,listed.getD j true=false→j∈T)→BY P ops Q S' T' fuel listed a w→BY P ops Q S T fuel listed a w
 |0,_,_,_,_,h=>h
 | fuel+1,listed,_,_,hT,h=>⟨h.1,fun i hi=>wpOp_mono (fun a' w' h'=>⟨fun hn=>absurd (hT i (mem_ready.1 hi).1) hn,TT fuel _ a' w' (fun j hj=>hT j (by
   by_cases e:i=j
   ·subst e;exact(mem_ready.1 hi).1
   ·rwa [getD_set_ne true e]at hj)) h'.2⟩) (h.2 i hi)⟩
def bits(n m:Nat):Array Bool:=((List.range n).map fun i=>m.testBit i).toArray
theorem F1(n m i:Nat):(bits n m).setIfInBounds i true=bits n (m|||2^i):=by
 apply Array.ext
 ·simp[bits]
 ·intro j h1 h2;simp only[bits,Array.size_setIfInBounds,List.size_toArray,List.length_map,List.length_range]at h1;rw[Array.getElem_setIfInBounds]
  ·simp only[bits,List.getElem_toArray,List.getElem_map,List.getElem_range,Nat.testBit_or,Nat.testBit_two_pow];by_cases e:i=j
   ·subst e;simp
   ·simp[e]
  ·simpa[bits]using h1
theorem Vd(n:Nat):bits n 0=Array.replicate n false:=by
 apply Array.ext<;>simp[bits]
def JD(ops:Array Oper)(T:List Nat)(i:Nat):Bool:=T.all fun t=>reach ops i 5 t
def pj(ops:Array Oper)(m i:Nat):Bool:=
 Region.noSelect ops&&Region.free .any ops (bits ops.size m) i&&(Region.ready .any ops (bits ops.size m)).contains i
end
section
variable{P:Program}{f n:Nat}{ops:Array Oper}{k:List Item}{R:pC}{S:World→Prop}{T:List Nat}{σ:Env}{w:World}{fuel m:Nat}
def Qd(P:Program)(f:Nat)(k:List Item)(R:pC):Exit→Act→World→Prop:=fun e a w=>
 (e=.normal∧wT P f k R a w)∨∃ch,e=.panic ch∧(∃fn,P.funcs[f]?=some fn)∧a.defers=[]∧R.out (.panicked ch) w
theorem Qd.qn{e:Exit}{a:Act}(h:Qd P f k R e a w):Qn P f k R e a w:=by
 rcases h with h|⟨ch,rfl,⟨fn,hf⟩,hd,hR⟩
 ·exact .inl h
 ·exact .inr ⟨ch,rfl,fn,hf,.inl hd,by rw[hd];exact hR⟩
def Dr(P:Program)(f n:Nat)(ops:Array Oper)(k:List Item)(R:pC)(S:World→Prop)(T:List Nat)(fuel m:Nat)(σ:Env)(w:World):Prop:=
 ∀a,Fr n σ a→a.defers=R.defers→yf ops (bits ops.size m)→BY P ops (Qd P f k R) S T fuel (bits ops.size m) a w
theorem bC{id:Nat}(S:World→Prop)(T:List Nat)(hm:P.follows .mixedOrders=true)(h:Dr P f n ops k R S T ops.size 0 σ w.drew):Rn P f n (.code (.region id ops true)::k) R σ w:=
 fun a ha hd=>by
  have h2:=h a ha hd (fun j o _ hj=>by simp[Vd]at hj;by_cases az:j<ops.size<;>simp[az]at hj);rw[Vd]at h2;have h3:(Code.region id ops true).wp P (Qd P f k R) a w:=wp_region_any hm (Wc (S:=S) (T:=T) _ _ _ _ h2);refine TQ fun b k' cs=>?_;obtain⟨e,a',w',hq,zV⟩:=h3 b k' cs;exact⟨e,a',w',hq.qn,zV⟩
theorem aht{d:Option Tmp}{v:Value}:∀c a w,Qd P f k R (.panic c) (a.put d v) w→Qd P f k R (.panic c) a w:=fun _ _ _ h=>by
 rcases h with⟨h,_⟩|⟨ch,h,hf,hd,hR⟩
 ·cases h
 ·exact .inr ⟨ch,h,hf,by rwa [put_defers]at hd,hR⟩
theorem ac3{i j:Nat}{listed:Array Bool}(h:JD ops T i=true)(hc:yf ops listed)(hi:listed.getD i false=false)(hj:j∈Region.ready .any ops listed):j∉T:=fun hm=>by
 obtain⟨_,oj,HE,kJ⟩:=mem_ready.1 hj;have:=Ur hc 5 j oj HE kJ (List.all_eq_true.1 h j hm);rw[hi]at this;cases this
theorem NI(i:Nat){D:World→Prop}{o:Oper}{v:Value}(ho:ops[i]?=some o)(hk:pj ops m i=true)(hd:fJ n o.dst=true)
  (hD:∀(listed:Array Bool) j,yf ops listed→listed.getD i false=false→j∈Region.ready .any ops listed→∀w w',D w→(j∉T→S w→S w')→D w')
  (hv:∀a,Fr n σ a→YieldsIf P ops D o v a)(hw:D w)(h:Dr P f n ops k R S T fuel (m|||2^i) (put σ o.dst v) w):Dr P f n ops k R S T (fuel+1) m σ w:=fun a ha ff hc=>by
 simp only[pj,Bool.and_eq_true]at hk;obtain⟨⟨h1,h2⟩,h3⟩:=hk;have EI:i∈Region.ready .any ops (bits ops.size m):=by simpa using h3
 have cG:=hc.set EI;refine aeA (D:=D) ho (Region.noSelect_spec h1) aht hD fuel _ a w hc (fun j oj hj bS LU ku=>Region.free_spec ho h2 j oj hj bS LU ku) EI (hv a ha) hw ?_;rw[F1]at cG⊢;exact h _ (ha.put _ v hd) ((put_defers _ _ _).trans ff) cG
theorem Yx(i:Nat)(v:Value){o:Oper}(ho:ops[i]?=some o)(hk:(pj ops m i&&JD ops T i)=true)(hg:guardOf ops σ o.guard=some true)(hd:fJ n o.dst=true) (hv:∀w,S w→cS P n σ o w v)(hS:S w)(h:Dr P f n ops k R S T fuel (m|||2^i) (put σ o.dst v) w):Dr P f n ops k R S T (fuel+1) m σ w:=by
 simp only[Bool.and_eq_true]at hk;exact NI (D:=S) i ho hk.1 hd (fun listed j hc hi hj w w' hS h=>h (ac3 hk.2 hc hi hj) hS) (fun a ha=>.inl ⟨sB ha hg,fun w hw=>hv w hw a ha⟩) hS h
theorem Gq(i:Nat)(v:Value){o:Oper}(ho:ops[i]?=some o)(hk:pj ops m i=true)(hg:guardOf ops σ o.guard=some true)(hd:fJ n o.dst=true) (hv:∀w,cS P n σ o w v)(h:Dr P f n ops k R S T fuel (m|||2^i) (put σ o.dst v) w):Dr P f n ops k R S T (fuel+1) m σ w:=
 NI (D:=fun _=>True) i ho hk hd (fun _ _ _ _ _ _ _ _ _=>trivial) (fun a ha=>.inl ⟨sB ha hg,fun w _=>hv w a ha⟩) trivial h
theorem Yy(i:Nat){o:Oper}(ho:ops[i]?=some o)(hk:pj ops m i=true)(hg:guardOf ops σ o.guard=some false)(hd:fJ n o.dst=true) (h:Dr P f n ops k R S T fuel (m|||2^i) (put σ o.dst undef) w):Dr P f n ops k R S T (fuel+1) m σ w:=
 NI (D:=fun _=>True) i ho hk hd (fun _ _ _ _ _ _ _ _ _=>trivial) (fun _ ha=>.inr ⟨sB ha hg,rfl⟩) trivial h
theorem yg{σ':Env}(hs:Sub σ' σ)(h:Dr P f n ops k R S T fuel m σ' w):Dr P f n ops k R S T fuel m σ w:=fun a ha ff hc=>h a (ha.sub hs) ff hc
theorem Y5(i:Nat){o:Oper}(ho:ops[i]?=some o)(hr:Region.ready .any ops (bits ops.size m)=[i])(hg:guardOf ops σ o.guard=some true)(hd:fJ n o.dst=true)
  (h:iE P n σ o w fun v w'=>(i∉T→S w')∧Dr P f n ops k R S T fuel (m|||2^i) (put σ o.dst v) w'):Dr P f n ops k R S T (fuel+1) m σ w:=fun a ha ff hc=>by
 refine⟨fun h0=>(by rw[hr]at h0;cases h0),fun j hj=>?_⟩;have cG:=hc.set hj;rw[hr]at hj;obtain rfl:j=i:=by simpa using hj
 unfold wpOp;simp only[ho,sB ha hg,if_true];refine .inl (h a ha _ _ fun v w' hv=>⟨fun ht _=>hv.1 ht,?_⟩);rw[F1]at cG⊢;exact hv.2 _ (ha.put _ v hd) ((put_defers _ _ _).trans ff) cG
theorem Br(i j:Nat){oi oj:Oper}(hi:ops[i]?=some oi)(hj:ops[j]?=some oj)(hr:Region.ready .any ops (bits ops.size m)=[i,j])
  (hgi:guardOf ops σ oi.guard=some true)(hdi:fJ n oi.dst=true)(hgj:guardOf ops σ oj.guard=some true)(Cr:fJ n oj.dst=true)
  (h1:iE P n σ oi w fun v w'=>(i∉T→S w')∧Dr P f n ops k R S T fuel (m|||2^i) (put σ oi.dst v) w')
  (h2:iE P n σ oj w fun v w'=>(j∉T→S w')∧Dr P f n ops k R S T fuel (m|||2^j) (put σ oj.dst v) w'):Dr P f n ops k R S T (fuel+1) m σ w:=fun a ha ff hc=>by
 refine⟨fun h0=>(by rw[hr]at h0;cases h0),fun x hx=>?_⟩;have cG:=hc.set hx;rw[hr]at hx;rcases(by simpa using hx:x=i∨x=j)with rfl|rfl
 ·unfold wpOp;simp only[hi,sB ha hgi,if_true];refine .inl (h1 a ha _ _ fun v w' hv=>⟨fun ht _=>hv.1 ht,?_⟩);rw[F1]at cG⊢;exact hv.2 _ (ha.put _ v hdi) ((put_defers _ _ _).trans ff) cG
 ·unfold wpOp;simp only[hj,sB ha hgj,if_true];refine .inl (h2 a ha _ _ fun v w' hv=>⟨fun ht _=>hv.1 ht,?_⟩);rw[F1]at cG⊢;exact hv.2 _ (ha.put _ v Cr) ((put_defers _ _ _).trans ff) cG
def akI(n m:Nat)(T:List Nat):Bool:=(List.range n).all fun j=>m.testBit j||T.contains j
theorem afK(S':World→Prop)(T':List Nat)(hT:akI ops.size m T=true)(h:Dr P f n ops k R S' T' fuel m σ w):Dr P f n ops k R S T fuel m σ w:=fun a ha ff hc=>
 TT fuel _ a w (fun j hj=>by
  by_cases az:j<ops.size
  ·have h1:=List.all_eq_true.1 hT j (List.mem_range.2 az);simp[bits,az]at hj;simpa[hj]using h1
  ·simp[bits,az]at hj) (h a ha ff hc)
theorem yb(Y6 m':Nat)(I:Env→World→Prop)(Pk:∀σ' w',I σ' w'→Dr P f n ops k R S T Y6 m' σ' w')
  (Pm:(∀σ' w',I σ' w'→Dr P f n ops k R S T Y6 m' σ' w')→Dr P f n ops k R S T fuel m σ w):Dr P f n ops k R S T fuel m σ w:=Pm Pk
theorem ajh(hr:Region.ready .any ops (bits ops.size m)=[])(h:Rn P f n k R σ w):Dr P f n ops k R S T fuel m σ w:=fun a ha ff _=>by
 cases fuel with
 |zero=>exact⟨hr,.inl ⟨rfl,h a ha ff⟩⟩
 |succ fuel=>exact⟨fun _=>.inl ⟨rfl,h a ha ff⟩,by rw[hr];simp⟩
theorem akJ(i:Nat){o:Oper}{fn:Func}{K Kp:Value→World→Prop}(hf:P.funcs[f]?=some fn)(ho:ops[i]?=some o)(hr:Region.ready .any ops (bits ops.size m)=[i])(hg:guardOf ops σ o.guard=some true)(hd:fJ n o.dst=true)
  (h:EH P n σ o w (fun v w'=>(i∉T→S w')∧Dr P f n ops k (oQ K Kp) S T fuel (m|||2^i) (put σ o.dst v) w') Kp):Dr P f n ops k (oQ K Kp) S T (fuel+1) m σ w:=fun a ha ff hc=>by
 refine⟨fun h0=>(by rw[hr]at h0;cases h0),fun j hj=>?_⟩;have cG:=hc.set hj;rw[hr]at hj;obtain rfl:j=i:=by simpa using hj
 unfold wpOp;simp only[ho,sB ha hg,if_true];refine .inl (h a ha _ _ (fun v w' hv=>⟨fun ht _=>hv.1 ht,?_⟩) fun v w' hv=>.inr ⟨_,rfl,⟨fn,hf⟩,ff,.inr ⟨v,rfl,hv⟩⟩);rw[F1]at cG⊢;exact hv.2 _ (ha.put _ v hd) ((put_defers _ _ _).trans ff) cG
end
def EJ(P:Program)(f n:Nat)(todo:List Item)(RD:Ending→FrameMode→World→Prop)(u:FrameMode)(σ:Env)(w:World):Prop:=
 ∀a,Fr n σ a→a.defers=[]→∀(b c:Frame) (cs:List Frame),b.fn=f→b.kind=.deferred→b.roundOf=none→c.mode=u→
  ∃e u' w' fr,RD e u' w'∧Comes P (lone (b.at a todo) (c::cs) w) (lone fr ({c with mode:=u'}::cs) w') e∧fr.kind=.deferred∧fr.going P w' e
section
variable{P:Program}{f n:Nat}{k:List Item}{RD:Ending→FrameMode→World→Prop}{u:FrameMode}{σ:Env}{w:World}
theorem Jq{fn:Func}{c:Code}{args:List Value}(n:Nat)(hf:P.funcs[f]?=some fn)(hb:fn.body=some c)(hn:fn.ntmps=n)(hl:args.length≤n) (h:EJ P f n [.code c] RD u (wD args 0) w):CallsD P f args.toArray u w RD:=by
 intro c₀ cs hu
 let b:Frame:={(default:Frame)with fn:=f,kind:=.deferred}
 have OX:Frame.enter P f args.toArray .deferred=
   b.at {tmps:=args.toArray++Array.replicate (fn.ntmps-args.toArray.size) undef,defers:=[]} [.code c]:=by
  simp[Frame.enter,Frame.at,hf,hb,b]
 have:=h {tmps:=args.toArray++Array.replicate (fn.ntmps-args.toArray.size) undef,defers:=[]}
  ⟨by simp[hn];omega,fun t v hv=>by
   have:=(Np args 0 t v hv).2;simp only[Nat.sub_zero]at this;have az:t<args.length:=(List.getElem?_eq_some_iff.1 this).1;rw[Array.getElem?_append_left (by simpa using az)];simpa using this⟩ rfl b c₀ cs rfl rfl rfl hu
 rwa [←OX]at this
theorem JX{x y:Code}(h:EJ P f n (.code x::.code y::k) RD u σ w):EJ P f n (.code (.seq x y)::k) RD u σ w:=fun a ha hd b c cs h1 h2 h3 h4=>
 let⟨e,u',w',fr,hR,hs,r⟩:=h a ha hd b c cs h1 h2 h3 h4;⟨e,u',w',fr,hR,Comes.of_steps (.one step_seq) hs,r⟩
def KY(RD:Ending→FrameMode→World→Prop)(u:FrameMode):pC:=⟨.deferred,[],fun e w=>RD e u w⟩
theorem S_{id:Nat}{o:Oper}{l:List Oper}{v:Value}{u':FrameMode}(hg:guardOf (o::l).toArray σ o.guard=some true)(hd:fJ n o.dst=true)
  (uY:∀a,Fr n σ a→(execOp a.eval o).run P w=.ok .recover w)
  (amu:∀(c:Frame) (cs:List Frame),c.mode=u→(recoverD (c::cs)).getD (.nilIface,c::cs)=(v,{c with mode:=u'}::cs))
  (h:Pl P f n (o::l).toArray k (KY RD u') l (put σ o.dst v) w):EJ P f n (.code (.region id (o::l).toArray false)::k) RD u σ w:=fun a ha ff b c cs h1 h2 h3 h4=>by
 have alw:wpOps P (o::l).toArray (Qn P f k (KY RD u')) (List.range' 1 l.length) (a.put o.dst v) w:=by
  rw[wpOps_eq_wpList l 1 (fun j=>by simp[Nat.add_comm 1 j])];exact h _ (ha.put _ v hd) ((put_defers _ _ _).trans ff)
 have cG:({c with mode:=u'}:Frame).mode=u':=rfl;obtain⟨e,a',w',hq,zV⟩:=wp_ops _ _ _ alw b k ({c with mode:=u'}::cs);obtain⟨e,cg,fr,hR,hs,_,hk,m_⟩:=Ts hq zV h1 h2;have ho:((o::l).toArray)[0]?=some o:=by simp
 have hw:Region.wanted o (yielded (o::l).toArray a.tmps)=true:=sB ha hg;have yh:List.range (o::l).toArray.size=0::List.range' 1 l.length:=by
  rw[List.range_eq_range'];simp[List.range'_succ]
 have hgs:=stepG_op (P:=P) (b:=b) (k:=k) (cs:=c::cs) (w:=w) (rest:=List.range' 1 l.length) ho hw;have zW:∀v,(b.at a (.inRegion (o::l).toArray (0::List.range' 1 l.length)::k)).finish v=b.at (a.put o.dst v) (.inRegion (o::l).toArray (List.range' 1 l.length)::k):=by
  intro v;rw[Frame.finish_at,ho];rfl
 have bz:(b.at a (.inRegion (o::l).toArray (0::List.range' 1 l.length)::k)).kind=.deferred:=h2;have EK:=tryRecover_deferred bz (c::cs);have hr:=uY a ha;have zI:step P (lone (b.at a (.inRegion (o::l).toArray (0::List.range' 1 l.length)::k)) (c::cs) w)=.next (lone (b.at (a.put o.dst v) (.inRegion (o::l).toArray (List.range' 1 l.length)::k)) ({c with mode:=u'}::cs) w):=by
  refine step_lone_go ?_;have DZ:=amu c cs h4;cases hx:recoverD (c::cs)with
  |some p=>
   obtain⟨v',ur⟩:=p;rw[hx]at DZ;simp only[Option.getD_some,Prod.mk.injEq]at DZ;obtain⟨rfl,rfl⟩:=DZ;rw[hgs,←zW];simp only[Frame.at]at EK⊢;simp[stepG.apply,hr,EK,hx]
  |none=>
   rw[hx]at DZ;simp only[Option.getD_none,Prod.mk.injEq]at DZ;obtain⟨rfl,he⟩:=DZ;rw[←he,hgs,←zW];simp only[Frame.at]at EK⊢;simp[stepG.apply,hr,EK,hx]
 refine⟨e,u',cg,fr,hR,Comes.of_steps (.head step_region (by rw[yh];exact .one zI)) hs,?_,m_⟩;cases e with
 |returned v=>exact hk
 |panicked ch=>exact hk.elim (fun h=>h) fun h=>by cases h
 |outgrown=>exact hk.elim (fun h=>h) fun h=>by cases h
theorem TU{id:Nat}{o:Oper}{l:List Oper}(v:Value)(hu:u=.panicking (Cq v))(hg:guardOf (o::l).toArray σ o.guard=some true)(hd:fJ n o.dst=true) (uY:∀a,Fr n σ a→(execOp a.eval o).run P w=.ok .recover w) (h:Pl P f n (o::l).toArray k (KY RD (.panicking [{v:=v,recovered:=true}])) l (put σ o.dst v) w):EJ P f n (.code (.region id (o::l).toArray false)::k) RD u σ w:=
 S_ hg hd uY (fun c cs hc=>by
  subst hu;simp[recoverD,hc,Cq]) h
theorem Ve{id:Nat}{o:Oper}{l:List Oper}(hu:u=.returning)(hg:guardOf (o::l).toArray σ o.guard=some true)(hd:fJ n o.dst=true) (uY:∀a,Fr n σ a→(execOp a.eval o).run P w=.ok .recover w) (h:Pl P f n (o::l).toArray k (KY RD .returning) l (put σ o.dst .nilIface) w):EJ P f n (.code (.region id (o::l).toArray false)::k) RD u σ w:=
 S_ hg hd uY (fun c cs hc=>by
  subst hu;have he:({c with mode:=.returning}:Frame)=c:=by rw[←hc]
  simp[recoverD,hc,he]) h
end
def find{β:Type}:List (Nat×β)→Nat→Option β
 |[],_=>none
 |(s,v)::r,t=>match Nat.beq s t with
  |true=>some v
  |false=>find r t
theorem Be{β:Type}:∀{l:List (Nat×β)} {t:Nat} {x:β},find l t=some x→(t,x)∈l
 |[],_,_,h=>by simp[find]at h
 | (s,y)::r,t,x,h=>by
  unfold find at h;cases hb:Nat.beq s t with
  |true=>
   have iT:=Nat.eq_of_beq_eq_true hb;subst iT;simp at h;subst h;simp
  |false=>
   simp only[hb]at h;exact List.mem_cons_of_mem _ (Be h)
structure fV where
 LW:List (Nat×List (Nat×Nat))
 sl:List (Nat×Nat)
 ar:List (Nat×(Nat×Nat))
 one:List (Nat×Unit)
 ag:List (Nat×Nat)
def Kz(P:Program)(s f off:Nat):Bool:=
 match P.underlying s with
 |some (.struct fs)=>match fs[f]?with
  |some d=>d.offset==off&&(match P.info? d.type with|some i=>i.size !=0|none=>false)
  |none=>false
 |_=>false
def dH(P:Program)(t n:Nat):Bool:=
 match P.info? t with
 |some i=>i.size==n
 |none=>false
def zX(P:Program)(t n:Nat):Bool:=
 match P.underlying t with
 |some (.slice e)=>dH P e n
 |_=>false
def GP(P:Program)(t len n:Nat):Bool:=
 match P.underlying t with
 |some (.array l e)=>l==len&&dH P e n
 |_=>false
def BG(P:Program)(t:Nat):Bool:=
 match P.underlying t with
 |some (.struct _)|some (.array _ _)|none=>false
 |some _=>dH P t 1
def Eh(P:Program)(t n:Nat):Bool:=
 match P.underlying t with
 |some (.struct _)|some (.array _ _)=>dH P t n
 |_=>false
def fV.check(T:fV)(P:Program):Bool:=
 (T.LW.all fun p=>p.2.all fun q=>Kz P p.1 q.1 q.2)&&(T.sl.all fun p=>zX P p.1 p.2)&&(T.ar.all fun p=>GP P p.1 p.2.1 p.2.2)&&(T.one.all fun p=>BG P p.1)&&(T.ag.all fun p=>Eh P p.1 p.2)
def fV.Po(T:fV)(s f:Nat):Option Nat:=
 match find T.LW s with
 |some l=>find l f
 |none=>none
section
variable{P:Program}{T:fV}{n:Nat}{σ:Env}{o:Oper}{w:World}{v:Value}
theorem fV.akK(hT:T.check P=true){s f off:Nat}(h:T.Po s f=some off):Kz P s f off=true:=by
 simp only[fV.check,Bool.and_eq_true]at hT;unfold fV.Po at h;cases hs:find T.LW s with
 |none=>simp[hs]at h
 |some l=>
  simp only[hs]at h;exact List.all_eq_true.1 (List.all_eq_true.1 hT.1.1.1.1 _ (Be hs)) _ (Be h)
theorem fV.D0(hT:T.check P=true){t m:Nat}(h:find T.sl t=some m):zX P t m=true:=by
 simp only[fV.check,Bool.and_eq_true]at hT;exact List.all_eq_true.1 hT.1.1.1.2 _ (Be h)
theorem fV.Pp(hT:T.check P=true){t:Nat}{m:Nat×Nat}(h:find T.ar t=some m):GP P t m.1 m.2=true:=by
 simp only[fV.check,Bool.and_eq_true]at hT;exact List.all_eq_true.1 hT.1.1.2 _ (Be h)
theorem fV.Yz(hT:T.check P=true){t:Nat}(h:find T.one t=some ()):BG P t=true:=by
 simp only[fV.check,Bool.and_eq_true]at hT;exact List.all_eq_true.1 hT.1.2 _ (Be h)
theorem fV.alx(hT:T.check P=true){t m:Nat}(h:find T.ag t=some m):Eh P t m=true:=by
 simp only[fV.check,Bool.and_eq_true]at hT;exact List.all_eq_true.1 hT.2 _ (Be h)
theorem wi{t m:Nat}(h:dH P t m=true)(w:World):(sizeOf t).run P w=.ok m w:=by
 unfold dH at h;cases hi:P.info? t with
 |none=>simp[hi]at h
 |some i=>
  simp only[hi,beq_iff_eq]at h;simp[sizeOf,typeInfo,hi,h]
theorem TV{t m:Nat}(h:dH P t m=true):(P.info? t).map (·.size)=some m:=by
 unfold dH at h;cases hi:P.info? t with
 |none=>simp[hi]at h
 |some i=>simpa[hi]using h
theorem afL{s f off b q:Nat}(h:Kz P s f off=true)(w:World):(Instr.fieldAt s (.pointer (some ⟨b,q,none⟩)) f).run P w=.ok (.pointer (some ⟨b,q+off,none⟩)) w:=by
 unfold Kz at h;split at h
 ·rename_i fs hu
  split at h
  ·rename_i d hd
   simp only[Bool.and_eq_true,beq_iff_eq]at h;obtain⟨rfl,h2⟩:=h;split at h2
   ·rename_i i hi
    have bS:i.size≠0:=by simpa using h2
    have bw:(sizeOf d.type).run P w=.ok i.size w:=by simp[sizeOf,typeInfo,hi]
    simp[Instr.fieldAt,run_underlying hu,hd,Instr.sureAddr,fieldPlace,bw,bS,Addr.add_mid]
   ·cases h2
  ·cases h
 ·cases h
def Gr(T:fV)(σ:Env):Op→Option Value
 |.move x=>ev σ x
 |.assign x=>ev σ x
 |.pick c a b=>match ev σ c with
  |some (.bool true)=>ev σ a
  |some (.bool false)=>ev σ b
  |_=>none
 |.nilCheck x=>match ev σ x with
  |some (.pointer (some a))=>some (.pointer (some a))
  |_=>none
 | .fieldAddr s x f=>match ev σ x with
  |some (.pointer (some ⟨b,q,none⟩))=>match T.Po s f with
   |some off=>some (.pointer (some ⟨b,q+off,none⟩))
   |none=>none
  |_=>none
 |.extract x i=>match ev σ x with
  |some (.tuple vs)=>vs[i]?
  |_=>none
 | .makeFunc fn first captured=>match tq σ first.toList with
  |none=>none
  |some xs=>match tq σ captured.toList with
   |none=>none
   |some ys=>some (.func fn xs.toArray ys.toArray)
 |.unOp .not _ x=>match ev σ x with
  |some (.bool b)=>some (.bool !b)
  |_=>none
 | .call c=>match c.callee,c.args.toList,c.argTypes.toList with
  | .builtin .len,[x],[t]=>match find T.sl t with
   |none=>none
   |some _=>match ev σ x with
    |some (.slice _ m _)=>some (.int .i64 m)
    |_=>none
  |_,_,_=>none
 |_=>none
theorem AZ{α β:Type}{xs:Array α}{g:α→β}{ys:List β}(h:xs.toList.map g=ys):xs.map g=ys.toArray:=by
 apply Array.ext';simpa using h
theorem Bf(hT:T.check P=true)(h:Gr T σ o.op=some v)(w:World):cS P n σ o w v:=by
 intro a ha;unfold Gr at h;split at h
 ·rename_i x ho;simp[execOp,ho,ha.eval h]
 ·rename_i x ho;simp[execOp,ho,ha.eval h]
 ·rename_i c x y ho
  split at h
  ·rename_i hc;simp[execOp,ho,ha.eval hc,asBool,ha.eval h]
  ·rename_i hc;simp[execOp,ho,ha.eval hc,asBool,ha.eval h]
  ·cases h
 ·rename_i x ho
  split at h
  ·rename_i ad hx;cases h;simp[execOp,ho,ha.eval hx]
  ·cases h
 ·rename_i s x f ho
  split at h
  ·rename_i b q hx
   split at h
   ·rename_i off hf
    cases h;simp[execOp,ho,ha.eval hx,afL (fV.akK hT hf)]
   ·cases h
  ·cases h
 ·rename_i x i ho
  split at h
  ·rename_i vs hx
   simp[execOp,ho,ha.eval hx,Instr.extract,h]
  ·cases h
 ·rename_i fn first captured ho
  split at h
  ·cases h
  ·rename_i xs pK
   split at h
   ·cases h
   ·rename_i ys vt
    cases h;simp only[execOp,ho];rw[AZ (ha.DY pK),AZ (ha.DY vt)];simp[Instr.makeFunc]
 ·rename_i t x ho
  split at h
  ·rename_i b hx
   cases h;simp[execOp,ho,ha.eval hx,Op.unary]
  ·cases h
 ·rename_i c ho
  split at h
  ·rename_i x t amv zJ amw
   split at h
   ·cases h
   ·rename_i m hm
    split at h
    ·rename_i ad len cap hx
     cases h;have hs:=fV.D0 hT hm;unfold zX at hs;split at hs
     ·rename_i e hu
      have e1:c.args=#[x]:=Array.ext' zJ;have e2:c.argTypes=#[t]:=Array.ext' amw;simp[execOp,ho,resolve,amv,e1,e2,invoke,builtin,Builtin.len_,run_underlying hu,ha.eval hx,goInt]
     ·cases hs
    ·cases h
  ·cases h
 ·cases h
section
variable{f:Nat}{ops:Array Oper}{k:List Item}{R:pC}
theorem lP{l:List Oper}(hT:T.check P=true)(hg:guardOf ops σ o.guard=some true)(hv:Gr T σ o.op=some v)(hd:fJ n o.dst=true)
  (h:Pl P f n ops k R l (put σ o.dst v) w):Pl P f n ops k R (o::l) σ w:=zC v hg hd (Bf hT hv w) h
theorem aji{S:World→Prop}{T':List Nat}{fuel m:Nat}(i:Nat)(hT:T.check P=true)(ho:ops[i]?=some o)(hk:pj ops m i=true)(hg:guardOf ops σ o.guard=some true) (hv:Gr T σ o.op=some v)(hd:fJ n o.dst=true)(h:Dr P f n ops k R S T' fuel (m|||2^i) (put σ o.dst v) w):Dr P f n ops k R S T' (fuel+1) m σ w:=
 Gq i v ho hk hg hd (fun w=>Bf hT hv w) h
end
def bU(op:BinOp)(k:IntKind)(a b:Int):Option Value:=
 match op with
 |.add=>some (.int k (k.wrap (a+b)))
 |.sub=>some (.int k (k.wrap (a-b)))
 |.mul=>some (.int k (k.wrap (a*b)))
 |.rem=>if b=0 then none else some (.int k (a.tmod b))
 |.and=>some (.int k (k.wrap (BitVec.ofInt k.bits a&&&BitVec.ofInt k.bits b).toNat))
 |.eql=>some (.bool (a==b))
 |.neq=>some (.bool (a !=b))
 |.lss=>some (.bool (a<b))
 |.leq=>some (.bool (a≤b))
 |.gtr=>some (.bool (a>b))
 |.geq=>some (.bool (a≥b))
 |_=>none
theorem Bi{op:BinOp}{t t':TypeId}{x y:Operand}(k:IntKind)(a b:Int)(r:Value)(ho:o.op=.binOp op t x y t')(hx:ev σ x=some (.int k a))(hy:ev σ y=some (.int k b)) (hr:bU op k a b=some r)(w:World):cS P n σ o w r:=by
  intro ac ha;cases op<;>simp only[bU]at hr<;>first
    |(cases hr;done)
    |(cases hr;simp[execOp,ho,ha.eval hx,ha.eval hy,eqGuard,binOp,Op.intArith,Op.intCmp,Op.intBits];done)
    | (split at hr
       ·cases hr
       · rename_i hb
         cases hr;simp[execOp,ho,ha.eval hx,ha.eval hy,eqGuard,binOp,Op.intDiv,hb])
theorem wrap_i64{x:Int}(h1:-9223372036854775808≤x)(h2:x<9223372036854775808):IntKind.i64.wrap x=x:=by
 have e:IntKind.i64.wrap x=if x%18446744073709551616≥9223372036854775808 then x%18446744073709551616-18446744073709551616 else x%18446744073709551616:=by
  simp[IntKind.wrap,IntKind.bits,IntKind.signed]
 rw[e];split<;>omega
theorem wrap_u64{x:Int}(h1:0≤x)(h2:x<18446744073709551616):IntKind.u64.wrap x=x:=by
 have e:IntKind.u64.wrap x=x%18446744073709551616:=by
  simp[IntKind.wrap,IntKind.bits,IntKind.signed]
 rw[e];omega
theorem ajj{t t':TypeId}{x y:Operand}(k k':IntKind)(a b:Int)(r:Int)(ho:o.op=.binOp .shr t x y t')(hx:ev σ x=some (.int k a))(hy:ev σ y=some (.int k' b)) (hb:0≤b)(hr:a.fdiv (2^min b.toNat k.bits)=r)(w:World):cS P n σ o w (.int k r):=by
 intro ac ha;subst hr;have:¬b<0:=by omega
 simp[execOp,ho,ha.eval hx,ha.eval hy,eqGuard,binOp,Op.shift,this]
def OZ(P:Program)(src dst:Nat)(k:IntKind):Bool:=
 match P.underlying src,P.underlying dst with
 |some _,some (.int k')=>decide (k'=k)
 |_,_=>false
theorem JE{src dst:TypeId}{x:Operand}(k k':IntKind)(a r:Int)(ho:o.op=.convert src dst x)(hx:ev σ x=some (.int k a))(hc:OZ P src dst k'=true)(hr:k'.wrap a=r)(w:World):cS P n σ o w (.int k' r):=by
 intro ac ha;subst hr;unfold OZ at hc;split at hc
 ·rename_i d k2 h1 h2
  have hk:k2=k':=by simpa using hc
  subst hk;cases d<;>simp[execOp,ho,ha.eval hx,convert,run_underlying h1,run_underlying h2,Conv.intToInt]
 ·cases hc
def ak(w:World)(b:Nat)(L:List Value)(e:TypeId):Prop:=w.heap[b]?=some (.cells L.toArray e (0,0))
theorem ak.lt{b:Nat}{L:List Value}{e:TypeId}(h:ak w b L e):b<w.heap.size:=(Array.getElem?_eq_some_iff.1 h).1
theorem ak.drew{b:Nat}{L:List Value}{e:TypeId}(h:ak w b L e):ak w.drew b L e:=h
theorem ak.alloc{b:Nat}{L:List Value}{e:TypeId}(h:ak w b L e)(ob:Obj):ak (w.alloc ob) b L e:=(heap_alloc_old w ob b h.lt).trans h
theorem ak.new(w:World)(L:List Value)(e:TypeId):ak (w.alloc (.cells L.toArray e)) w.heap.size L e:=heap_alloc_new w _
theorem ak.set{b:Nat}{L:List Value}{e:TypeId}(h:ak w b L e)(L':List Value):ak (w.setRow b L'.toArray) b L' e:=setRow_heap w b _ _ e _ h
theorem ak.other{b c:Nat}{L:List Value}{e:TypeId}(h:ak w b L e)(X:Array Value)(bS:b≠c):ak (w.setRow c X) b L e:=by
 unfold ak at*;rw[setRow_other w c b X bS];exact h
theorem ak.cell{b i:Nat}{L:List Value}{e:TypeId}(h:ak w b L e)(hv:L[i]?=some v):w.cell? ⟨b,i,none⟩=some v:=by
 unfold ak at h;simp only[World.cell?,h];simpa using hv
theorem ak.frozen{b i:Nat}{L:List Value}{e:TypeId}(h:ak w b L e):w.frozen? ⟨b,i,none⟩=false:=by
 unfold ak at h;simp[World.frozen?,h]
theorem ak.range{b i:Nat}{L cs:List Value}{e:TypeId}(h:ak w b L e)(hc:(L.drop i).take cs.length=cs):w.rangeAt b i cs:=fun j u hu=>by
 refine h.cell ?_;rw[←hc,List.getElem?_take]at hu;split at hu
 ·simpa using hu
 ·cases hu
theorem ak.there{b i m:Nat}{L:List Value}{e:TypeId}(h:ak w b L e)(hl:i+m≤L.length):w.there b i m:=fun j hj=>by
 refine⟨?_,h.frozen⟩;rw[h.cell (v:=L[i+j]'(by omega)) (List.getElem?_eq_getElem (by omega))]
 rfl
def b_(L:List Value)(i:Nat)(vs:List Value):List Value:=L.take i++vs++L.drop (i+vs.length)
theorem Te{L vs:List Value}{i:Nat}(h:i+vs.length≤L.length):(b_ L i vs).length=L.length:=by
 simp[b_];omega
theorem acZ(w:World)(b i:Nat)(v:Value)(X:Array Value):(w.setCell ⟨b,i,none⟩ v).setRow b X=w.setRow b X:=by
 have:(w.setCell ⟨b,i,none⟩ v).setRow b X={w with heap:=((w.heap.modify b fun|.cells c elem frozen=>.cells (if(none:Option Nat).isSome then c else c.setIfInBounds i v) elem frozen|o=>o).modify b fun|.cells _ elem frozen=>.cells X elem frozen|o=>o)}:=rfl;rw[this];unfold World.setRow;congr 1;apply Array.ext
 ·simp
 ·intro j h1 h2;simp only[Array.getElem_modify];by_cases e:b=j
  ·subst e;simp only[if_true];cases w.heap[b]'(by simpa using h2)<;>rfl
  ·simp[e]
theorem TW{e:TypeId}:∀(vs:List Value) (w:World) (b i:Nat) (L:List Value),ak w b L e→i+vs.length≤L.length→w.setCells b i vs=w.setRow b (b_ L i vs).toArray
 | [],w,b,i,L,h,_=>by
  have hs:b_ L i []=L:=by simp[b_]
  rw[hs];unfold World.setCells World.setRow;cases w with
  | mk heap tape drawn os output=>
   congr 1;apply Array.ext
   ·simp
   ·intro j h1 h2;simp only[Array.getElem_modify];by_cases ej:b=j
    ·subst ej;have hb:heap[b]=.cells L.toArray e (0,0):=by
      have:=h;unfold ak at this;simpa[Array.getElem?_eq_some_iff,h1]using this
     simp[hb]
    ·simp[ej]
 | v::r,w,b,i,L,h,hl=>by
  simp only[List.length_cons]at hl;have h1:ak (w.setCell ⟨b,i,none⟩ v) b (L.set i v) e:=by
   unfold ak at*;simp only[World.setCell,Array.getElem?_modify,if_true,h,Option.map_some];simp
  rw[World.setCells,TW r _ b (i+1) (L.set i v) h1 (by simp;omega),acZ];have hi:i<L.length:=by omega
  have t1:(L.set i v).take (i+1)=L.take i++[v]:=by
   rw[List.take_succ_eq_append_getElem (by simpa using hi),List.take_set_of_le (Nat.le_refl _)];simp
  have t2:(L.set i v).drop (i+1+r.length)=L.drop (i+(r.length+1)):=by
   rw[List.drop_set_of_lt (by omega),Nat.add_assoc,Nat.add_comm 1]
  simp only[b_,List.length_cons,t1,t2];simp
theorem FM{t:TypeId}{x:Operand}{b i:Nat}(hT:T.check P=true)(ho:o.op=.load t x)(hx:ev σ x=some (.pointer (some ⟨b,i,none⟩)))(ht:find T.one t=some ())(hc:w.cell? ⟨b,i,none⟩=some v):cS P n σ o w v:=by
 intro a ha;have hs:=fV.Yz hT ht;unfold BG at hs;cases hu:P.underlying t with
 |none=>simp[hu]at hs
 | some d=>
  have P4:(isAgg t).run P w=.ok false w:=by
   unfold isAgg;rw[Sem.run_bind,run_underlying hu w];cases d<;>simp_all
  simp[execOp,ho,ha.eval hx,Instr.loadAt,Instr.sureAddr,loadVar,P4,hc]
theorem wh{t b i:Nat}{cs:List Value}(hT:T.check P=true)(ht:find T.ag t=some cs.length)(hc:w.rangeAt b i cs):(loadVar t ⟨b,i,none⟩).run P w=.ok (.agg cs.toArray) w:=by
 have hs:=fV.alx hT ht;unfold Eh at hs;cases hu:P.underlying t with
 |none=>simp[hu]at hs
 |some d=>
  have hd:d.isRow=true:=by cases d<;>simp_all
  refine run_loadVar_mid w b i t cs d hc hu hd ?_;refine TV ?_;cases d<;>simp_all
theorem h_{t:TypeId}{x:Operand}{b i:Nat}(cs:List Value)(hT:T.check P=true)(ho:o.op=.load t x)(hx:ev σ x=some (.pointer (some ⟨b,i,none⟩)))(ht:find T.ag t=some cs.length)(hc:w.rangeAt b i cs):cS P n σ o w (.agg cs.toArray):=by
 intro a ha;simp[execOp,ho,ha.eval hx,Instr.loadAt,Instr.sureAddr,wh hT ht hc]
theorem A7{t:TypeId}{x ix:Operand}{b q len cap sz:Nat}{kk:IntKind}(j:Nat){i:Int}(hT:T.check P=true)(ho:o.op=.indexAddr t x ix)(hx:ev σ x=some (.slice (some ⟨b,q,none⟩) len cap))(hi:ev σ ix=some (.int kk i)) (ht:find T.sl t=some sz)(q_:i=(j:Int))(az:j<len)(w:World):cS P n σ o w (.pointer (some ⟨b,q+j*sz,none⟩)):=by
 intro a ha;subst q_;have hs:=fV.D0 hT ht;unfold zX at hs;split at hs
 ·rename_i e hu
  have h1:(0:Int)≤(j:Int)∧(j:Int)<(len:Int):=by omega
  simp[execOp,ho,ha.eval hx,ha.eval hi,Instr.indexAt,asIntOf,run_underlying hu,az,wi hs,Addr.add_mid]
 ·cases hs
theorem nC{t:TypeId}{x ix:Operand}{b q len sz:Nat}{kk:IntKind}(j:Nat){i:Int}(hT:T.check P=true)(ho:o.op=.indexAddr t x ix)(hx:ev σ x=some (.pointer (some ⟨b,q,none⟩)))(hi:ev σ ix=some (.int kk i)) (ht:find T.ar t=some (len,sz))(q_:i=(j:Int))(az:j<len)(w:World):cS P n σ o w (.pointer (some ⟨b,q+j*sz,none⟩)):=by
 intro a ha;subst q_;have hs:=fV.Pp hT ht;unfold GP at hs;split at hs
 ·rename_i l e hu
  simp only[Bool.and_eq_true,beq_iff_eq]at hs;obtain⟨rfl,hs⟩:=hs;simp[execOp,ho,ha.eval hx,ha.eval hi,Instr.indexAt,Instr.sureAddr,asIntOf,run_underlying hu,az,wi hs,Addr.add_mid]
 ·cases hs
theorem A1{t:TypeId}{x:Operand}{b q len sz:Nat}(hT:T.check P=true)(ho:o.op=.slice t x none none none)(hx:ev σ x=some (.pointer (some ⟨b,q,none⟩)))(ht:find T.ar t=some (len,sz))(w:World):cS P n σ o w (.slice (some ⟨b,q,none⟩) len len):=by
 intro a ha;have hs:=fV.Pp hT ht;unfold GP at hs;split at hs
 ·rename_i l e hu
  simp only[Bool.and_eq_true,beq_iff_eq]at hs;obtain⟨rfl,hs⟩:=hs;simp[execOp,ho,ha.eval hx,Instr.sliceAt,Instr.sliceBounds,Instr.sureAddr,run_underlying hu,wi hs,Addr.add]
 ·cases hs
theorem Us{t t':TypeId}{x:Operand}{ad:Addr}{len cap sz:Nat}(hT:T.check P=true)(ho:o.op=.binOp .eql t x (.const (.slice none 0 0)) t')(hx:ev σ x=some (.slice (some ad) len cap))(ht:find T.sl t=some sz)(w:World):cS P n σ o w (.bool false):=by
 intro a ha;have hs:=fV.D0 hT ht;unfold zX at hs;split at hs
 ·rename_i e hu
  have he:∀d,(Op.equalIn (d+1) t (.slice (some ad) len cap) (.slice none 0 0)).run P w=.ok false w:=fun d=>by
   simp[Op.equalIn,run_underlying hu]
  have tA:(Op.equal t (.slice (some ad) len cap) (.slice none 0 0)).run P w=.ok false w:=he 9999;have hc:a.eval (.const (.slice none 0 0))=.slice none 0 0:=rfl;simp[execOp,ho,ha.eval hx,hc,eqGuard,binOp,tA]
 ·cases hs
theorem iL{t:TypeId}{x y:Operand}{b i:Nat}{L:List Value}{e:TypeId}{K:Value→World→Prop}(cs:List Value)(ho:o.op=.store t x y)(hx:ev σ x=some (.pointer (some ⟨b,i,none⟩)))(hy:ev σ y=some v)(hc:v.cells=cs.toArray) (hz:dH P t cs.length=true)(hb:ak w b L e)(hl:i+cs.length≤L.length)(h1:∀u∈cs,u.oneCell'=true)(hK:K undef (w.setRow b (b_ L i cs).toArray)):iE P n σ o w K:=by
 refine afI (w':=w.setRow b (b_ L i cs).toArray) (fun a ha=>?_) hK;have hth:=hb.there hl;have aZ:=run_storeCells_cells (P:=P) b i cs 0 w (fun j hj=>by simpa using(hth j hj).1) (fun j hj=>by simpa using(hth j hj).2) h1;rw[Nat.add_zero,TW cs w b i L hb hl]at aZ;simp[execOp,ho,ha.eval hx,ha.eval hy,Instr.storeAt,Instr.sureAddr,storeVar,wi hz,aZ,hc]
theorem qG{t:TypeId}{x:Operand}{K:Value→World→Prop}(cs:List Value)(ho:o.op=.box t x)(hx:ev σ x=some v)(hc:v.cells=cs.toArray)(hK:K (.pointer (some ⟨w.heap.size,0,none⟩)) (w.alloc (.cells cs.toArray t))):iE P n σ o w K:=by
 refine wm (w':=w.alloc (.cells cs.toArray t)) (fun a ha=>?_) hK;simp[execOp,ho,ha.eval hx,Instr.box,newVar,newRow,newObj,Sem.run,hc]
theorem nD{t:TypeId}(cs:List Value){K:Value→World→Prop}(ho:o.op=.alloc t)(hz:((P.info? t).bind (·.zero)).map (·.cells)=some cs.toArray)(hK:K (.pointer (some ⟨w.heap.size,0,none⟩)) (w.alloc (.cells cs.toArray t))):iE P n σ o w K:=by
 refine wm (w':=w.alloc (.cells cs.toArray t)) (fun a _=>?_) hK;cases hi:P.info? t with
 |none=>simp[hi]at hz
 | some i=>
  cases r9:i.zero with
  |none=>simp[hi,r9]at hz
  |some z=>
   have hc:z.cells=cs.toArray:=by simpa[hi,r9]using hz
   simp[execOp,ho,Instr.alloc,zeroValue,typeInfo,hi,r9,newVar,newRow,newObj,Sem.run,hc]
def zA(σ:Env):List (Nat×Operand)→Option (List (Nat×Value))
 |[]=>some []
 | p::r=>match ev σ p.2 with
  |none=>none
  |some v=>match zA σ r with
   |none=>none
   |some vs=>some ((p.1,v)::vs)
theorem Fr.parts{a:Act}(h:Fr n σ a):∀{ps:List (Nat×Operand)} {vs:List (Nat×Value)},zA σ ps=some vs→(ps.map fun(i,x)=>(i,a.eval x))=vs
 |[],vs,hv=>by simp[zA]at hv;subst hv;rfl
 | p::r,vs,hv=>by
  simp only[zA]at hv;cases hx:ev σ p.2 with
  |none=>simp[hx]at hv
  | some v=>
   cases hr:zA σ r with
   |none=>simp[hx,hr]at hv
   |some us=>
    simp only[hx,hr,Option.some.injEq]at hv;subst hv;simp[h.eval hx,h.parts hr]
theorem bL{t:TypeId}{ps:Array (Nat×Operand)}{vs:List (Nat×Value)}(cells:List Value)(ho:o.op=.build t ps)(hv:zA σ ps.toList=some vs)(hb:P.built t vs=some cells.toArray)(w:World):cS P n σ o w (.agg cells.toArray):=by
 intro a ha;have he:=AZ (ha.parts hv);simp only[execOp,ho];rw[he,Sem.run_bind,run_build w t vs.toArray cells.toArray (by simpa using hb)];rfl
def kE(P:Program)(t len:Nat)(parts:List (Nat×Value)):Option (TypeId×Array Value):=
 match P.underlying t with
 | some (.slice e)=>match P.info? e with
  | some i=>if len*i.size>2^24 then none else
   if len*i.size=0 then(Instr.fill (fun j=>some (j*i.size,i.size)) ((Array.range (len*i.size)).map fun x=>((#[]:Array Value)[x%0]!)) parts).map fun c=>(e,c)
   else match i.zero with
    |some z=>(Instr.fill (fun j=>some (j*i.size,i.size)) ((Array.range (len*i.size)).map fun x=>(z.cells[x%z.cells.size]!)) parts).map fun c=>(e,c)
    |none=>none
  |none=>none
 |_=>none
theorem Da{t len:Nat}{ps:Array (Nat×Operand)}{vs:List (Nat×Value)}(e:TypeId)(cells:List Value){K:Value→World→Prop}(ho:o.op=.buildSlice t len ps)(hv:zA σ ps.toList=some vs) (hb:kE P t len vs=some (e,cells.toArray))(hK:K (.slice (some ⟨w.heap.size,0,none⟩) len len) (w.alloc (.cells cells.toArray e))):iE P n σ o w K:=by
 refine wm (w':=w.alloc (.cells cells.toArray e)) (fun a ha=>?_) hK;have he:=AZ (ha.parts hv);simp only[execOp,ho];rw[he];unfold kE at hb;split at hb
 ·rename_i e' hu
  split at hb
  ·rename_i i hi
   split at hb
   ·cases hb
   ·rename_i hle
    split at hb
    ·rename_i h0
     simp only[Option.map_eq_some_iff,Prod.mk.injEq]at hb;obtain⟨c,hc,rfl,rfl⟩:=hb;simp only[Instr.buildSlice,Sem.run_bind,run_underlying hu,Result.andThen_ok,sizeOf,typeInfo,Sem.run_pure];simp[program,Sem.run,hi,h0,newRow,newObj]at hc⊢;simp[hc,Sem.run]
    ·rename_i h0
     split at hb
     ·rename_i z hz
      simp only[Option.map_eq_some_iff,Prod.mk.injEq]at hb;obtain⟨c,hc,rfl,rfl⟩:=hb;simp[Instr.buildSlice,run_underlying hu,sizeOf,typeInfo,zeroValue,hi,hle,h0,hz,hc,newRow,newObj,Sem.run]
     ·cases hb
  ·cases hb
 ·cases hb
def pd(P:Program)(g:Nat):Bool:=
 match P.funcs[g]?with
 |some fn=>!(fn.name== "runtime.NumGoroutine")&&fn.body.isSome
 |none=>false
theorem rK{c:Call}{x:Operand}{g:Nat}{fst vs cap:List Value}{K:Value→World→Prop}(ho:o.op=.call c)(hc:c.callee=.value x)(hx:ev σ x=some (.func (.func g) fst.toArray cap.toArray))(hv:tq σ c.args.toList=some vs)
  (hg:pd P g=true)(hK:aC P g (fst++vs++cap) w K):iE P n σ o w K:=fun a ha next Q hn=>by
 have zJ:=AZ (ha.DY hv);have uY:(execOp a.eval o).run P w=.ok (.enter g (fst++vs++cap).toArray) w:=by
  unfold pd at hg;split at hg
  ·rename_i fn tu
   simp only[Bool.and_eq_true,Bool.not_eq_true']at hg;have Pq:¬fn.body=none:=by
    intro hb;simp[hb]at hg
   have BH:¬fn.name= "runtime.NumGoroutine" :=by simpa using hg.1
   simp[execOp,ho,resolve,hc,zJ,ha.eval hx,Deferred.ofValue,invoke,callFunc,tu,BH,Pq]
  ·cases hg
 simp only[Oper.wp,uY,Oper.upon];refine Calls.mono hK fun e w' he=>?_;obtain⟨v,rfl,hv⟩:=he;exact hn v w' hv
theorem dF{c:Call}{x:Operand}{g:Nat}{fst vs cap:List Value}{K Kp:Value→World→Prop}(ho:o.op=.call c)(hc:c.callee=.value x)(hx:ev σ x=some (.func (.func g) fst.toArray cap.toArray))(hv:tq σ c.args.toList=some vs)
  (hg:pd P g=true)(hK:End P g (fst++vs++cap) w K Kp):EH P n σ o w K Kp:=fun a ha next Q hn hp=>by
 have zJ:=AZ (ha.DY hv);have uY:(execOp a.eval o).run P w=.ok (.enter g (fst++vs++cap).toArray) w:=by
  unfold pd at hg;split at hg
  ·rename_i fn tu
   simp only[Bool.and_eq_true,Bool.not_eq_true']at hg;have Pq:¬fn.body=none:=by
    intro hb;simp[hb]at hg
   have BH:¬fn.name= "runtime.NumGoroutine" :=by simpa using hg.1
   simp[execOp,ho,resolve,hc,zJ,ha.eval hx,Deferred.ofValue,invoke,callFunc,tu,BH,Pq]
  ·cases hg
 simp only[Oper.wp,uY,Oper.upon];refine Calls.mono hK fun e w' he=>?_;rcases he with⟨v,rfl,hv⟩|⟨v,rfl,hv⟩
 ·exact hn v w' hv
 ·exact hp v w' hv
end
structure Bx(p:Prop):Prop where
 out:p
theorem au{G X:Prop}(x:X)(h:Bx X→G:=by(intro z;(repeat (first|refine lP hT rfl rfl rfl ?_|refine fP ?_|refine bT ?_|refine cH ?_|refine pc ?_|refine xT ?_|refine tU ?_|refine tV rfl ?_|refine tS rfl ?_|refine x_ rfl ?_|refine uS rfl rfl ?_));exact z.out)):G:=h ⟨x⟩
theorem aP{G X:Prop}(x:X)(h:Bx X→G:=by(intro z;(repeat (first|refine lP hT rfl rfl rfl ?_|refine uS rfl rfl ?_|refine fP ?_|refine xT ?_|refine tU ?_|refine tV rfl ?_|refine tS rfl ?_|refine x_ rfl ?_));exact z.out)):G:=h ⟨x⟩
theorem aU{G X:Prop}(x:X)(h:Bx X→G:=by(intro z;(repeat (first|refine lP hT rfl rfl rfl ?_|refine fP ?_|refine bT ?_|refine cH ?_|refine pc ?_|refine xT ?_|refine tU ?_|refine tV rfl ?_|refine tS rfl ?_|refine x_ rfl ?_|refine uS rfl rfl ?_|refine zC _ rfl rfl (FM hT rfl rfl rfl (ak.cell (by assumption) (by rfl))) ?_|refine O0 rfl rfl rfl rfl rfl (by first|(simp only[fR];omega)|(simp[fR];done)|(simp[fR];omega)) ?_|refine Pt rfl rfl rfl rfl rfl rfl (by first|(simp only[fR];omega)|(simp[fR];done)|(simp[fR];omega)) ?_));exact z.out)):G:=h ⟨x⟩
theorem amx{G X:Prop}(x:X)(h:Bx X→G:=by(intro z;(repeat (first|refine lP hT rfl rfl rfl ?_|refine fP ?_|refine xT ?_|refine tU ?_|refine tV rfl ?_|refine tS rfl ?_|refine x_ rfl ?_|refine uS rfl rfl ?_|refine zC _ rfl rfl (FM hT rfl rfl rfl (ak.cell (by assumption) (by rfl))) ?_|refine O0 rfl rfl rfl rfl rfl (by first|(simp only[fR];omega)|(simp[fR];done)|(simp[fR];omega)) ?_|refine Pt rfl rfl rfl rfl rfl rfl (by first|(simp only[fR];omega)|(simp[fR];done)|(simp[fR];omega)) ?_));exact z.out)):G:=h ⟨x⟩
theorem ye{G X:Prop}(x:X)(h:Bx X→G:=by(intro z;(repeat (first|refine lP hT rfl rfl rfl ?_|refine fP ?_|refine bT ?_|refine cH ?_|refine pc ?_|refine xT ?_|refine tU ?_|refine tV rfl ?_|refine tS rfl ?_|refine x_ rfl ?_|refine uS rfl rfl ?_));refine O0 rfl rfl rfl rfl rfl (by first|(simp only[fR];omega)|(simp[fR];done)|(simp[fR];omega)) ?_;exact z.out)):G:=h ⟨x⟩
theorem aL{G X:Prop}(x:X)(h:Bx X→G:=by(intro z;(repeat (first|refine lP hT rfl rfl rfl ?_|refine fP ?_|refine bT ?_|refine cH ?_|refine pc ?_|refine xT ?_|refine tU ?_|refine tV rfl ?_|refine tS rfl ?_|refine x_ rfl ?_|refine uS rfl rfl ?_));refine Pt rfl rfl rfl rfl rfl rfl (by first|(simp only[fR];omega)|(simp[fR];done)|(simp[fR];omega)) ?_;exact z.out)):G:=h ⟨x⟩
def Tg(_:Nat)(p:Prop):Prop:=p
section
variable{P:Program}{T:fV}{n f fuel m i:Nat}{ops:Array Oper}{k:List Item}{R:pC}{S:World→Prop}{T':List Nat}{σ:Env}{o:Oper}{w:World}{v:Value}
theorem aly{p:Prop}:Tg i (p→p):=id
theorem XB(hT:T.check P=true)(ho:ops[i]?=some o)(hk:pj ops m i=true)(hg:guardOf ops σ o.guard=some true)(hv:Gr T σ o.op=some v)(hd:fJ n o.dst=true):
  Tg i (Dr P f n ops k R S T' fuel (m|||2^i) (put σ o.dst v) w→Dr P f n ops k R S T' (fuel+1) m σ w):=fun h=>aji i hT ho hk hg hv hd h
theorem akL(ho:ops[i]?=some o)(hk:pj ops m i=true)(hg:guardOf ops σ o.guard=some false)(hd:fJ n o.dst=true):
  Tg i (Dr P f n ops k R S T' fuel (m|||2^i) (put σ o.dst undef) w→Dr P f n ops k R S T' (fuel+1) m σ w):=fun h=>Yy i ho hk hg hd h
theorem akM(ho:ops[i]?=some o)(hk:(pj ops m i&&JD ops T' i)=true)(hg:guardOf ops σ o.guard=some true)(hd:fJ n o.dst=true)(hv:∀w,S w→cS P n σ o w v)(hS:S w):
  Tg i (Dr P f n ops k R S T' fuel (m|||2^i) (put σ o.dst v) w→Dr P f n ops k R S T' (fuel+1) m σ w):=fun h=>Yx i v ho hk hg hd hv hS h
end
theorem tk{G X:Prop}(i:Nat)(x:X)(h:Tg i (X→G):=by exact XB hT rfl (by decide+kernel) rfl rfl rfl):G:=h x
theorem dp{G X:Prop}(i:Nat)(x:X)(h:Tg i (X→G):=by(first|exact XB hT rfl (by decide+kernel) rfl rfl rfl|exact akL rfl (by decide+kernel) rfl rfl|exact akM rfl (by decide+kernel) rfl rfl (fun w9 aq=>FM hT rfl rfl rfl (ak.cell aq.2 (by rfl))) hS|exact YA rfl (by decide+kernel) rfl rfl rfl rfl rfl (by first|(simp only[fR];omega)|(simp[fR];done)|(simp[fR];omega))|exact Y7 rfl (by decide+kernel) rfl rfl rfl rfl rfl rfl (by first|(simp only[fR];omega)|(simp[fR];done)|(simp[fR];omega))|exact aly)):G:=h x
theorem yN{G X:Prop}(i:Nat)(x:X)(h:Tg i (X→G):=by exact YA rfl (by decide+kernel) rfl rfl rfl rfl rfl (by first|(simp only[fR];omega)|(simp[fR];done)|(simp[fR];omega))):G:=h x
theorem yO{G X:Prop}(i:Nat)(x:X)(h:Tg i (X→G):=by exact Y7 rfl (by decide+kernel) rfl rfl rfl rfl rfl rfl (by first|(simp only[fR];omega)|(simp[fR];done)|(simp[fR];omega))):G:=h x
structure Iv{T:Type}(i:T):Prop where
 out:True
section
variable{P:Program}{n f fuel m i:Nat}{ops:Array Oper}{k:List Item}{R:pC}{S:World→Prop}{T':List Nat}{σ:Env}{o:Oper}{w:World}{l:List Oper}{c:Call}{x:Operand}{g:Nat}{vs:List Value}{Q:Value→World→Prop}
theorem alz(hg:guardOf ops σ o.guard=some true)(hd:fJ n o.dst=true)(ho:o.op=.call c)(hc:c.callee=.value x)(hx:ev σ x=some (.func (.func g) [].toArray [].toArray))(hv:tq σ c.args.toList=some vs)(hk:pd P g=true)(r:aC P g ([]++vs++[]) w Q)
  (h:∀v w',Q v w'→Pl P f n ops k R l (put σ o.dst v) w'):Pl P f n ops k R (o::l) σ w:=Pn hg hd (rK (fst:=[]) (cap:=[]) ho hc hx hv hk (r.mono h))
theorem alA(_:Iv i)(hi:ops[i]?=some o)(hr:Region.ready .any ops (bits ops.size m)=[i])(hg:guardOf ops σ o.guard=some true)(hd:fJ n o.dst=true)(ho:o.op=.call c)(hc:c.callee=.value x)(hx:ev σ x=some (.func (.func g) [].toArray [].toArray))(hv:tq σ c.args.toList=some vs)(hk:pd P g=true)(r:aC P g ([]++vs++[]) w Q)
  (h:∀v w',Q v w'→(i∉T'→S w')∧Dr P f n ops k R S T' fuel (m|||2^i) (put σ o.dst v) w'):Dr P f n ops k R S T' (fuel+1) m σ w:=Y5 i hi hr hg hd (rK (fst:=[]) (cap:=[]) ho hc hx hv hk (r.mono h))
end
theorem oC{G X Y:Prop}(r:Y)(x:X)(h:Y→Bx X→G:=by(intro r z;(repeat (first|refine lP hT rfl rfl rfl ?_|refine fP ?_|refine bT ?_|refine cH ?_|refine pc ?_|refine xT ?_|refine tU ?_|refine tV rfl ?_|refine tS rfl ?_|refine x_ rfl ?_|refine uS rfl rfl ?_));refine alz rfl rfl rfl rfl rfl rfl (by decide+kernel) r ?_;exact z.out)):G:=h r ⟨x⟩
theorem dC{G X Y:Prop}(i:Nat)(r:Y)(x:X)(h:Iv i→Y→Bx X→G:=by(intro q r z;refine alA q rfl (by decide+kernel) rfl rfl rfl rfl rfl rfl (by decide+kernel) r ?_;exact z.out)):G:=h ⟨trivial⟩ r ⟨x⟩
theorem lB{G X Y:Prop}(b:Y)(x:X)(h:Y→Bx X→G:=by(intro b z;(repeat (first|refine lP hT rfl rfl rfl ?_|refine fP ?_|refine bT ?_|refine cH ?_|refine pc ?_|refine xT ?_|refine tU ?_|refine tV rfl ?_|refine tS rfl ?_|refine x_ rfl ?_|refine uS rfl rfl ?_));refine zC _ rfl rfl (FM hT rfl rfl rfl (ak.cell b rfl)) ?_;exact z.out)):G:=h b ⟨x⟩
theorem nM{G X:Prop}(v:Int)(x:X)(h:Iv v→Bx X→G:=by(intro q z;(repeat (first|refine lP hT rfl rfl rfl ?_|refine fP ?_|refine bT ?_|refine cH ?_|refine pc ?_|refine xT ?_|refine tU ?_|refine tV rfl ?_|refine tS rfl ?_|refine x_ rfl ?_|refine uS rfl rfl ?_));refine alB q rfl rfl rfl rfl rfl (by simp only[kK];omega) ?_;exact z.out)):G:=h ⟨trivial⟩ ⟨x⟩
structure ae(fp:List Nat)(w w':World):Prop where
 os:w'.os=w.os
 tape:w'.tape=w.tape
 output:w'.output=w.output
 size:w.heap.size≤w'.heap.size
 block:∀k,k<w.heap.size→k∉fp→w'.heap[k]?=w.heap[k]?
section
variable{fp fp':List Nat}{w w' cg:World}
theorem ae.refl(fp:List Nat)(w:World):ae fp w w:=⟨rfl,rfl,rfl,Nat.le_refl _,fun _ _ _=>rfl⟩
theorem ae.trans(h:ae fp w w')(h':ae fp' w' cg)(hf:∀k∈fp',k∈fp∨w.heap.size≤k):ae fp w cg:=
 ⟨h'.os.trans h.os,h'.tape.trans h.tape,h'.output.trans h.output,Nat.le_trans h.size h'.size,fun k hk hn=>
  (h'.block k (Nat.lt_of_lt_of_le hk h.size) (fun hm=>(hf k hm).elim hn fun h1=>absurd hk (Nat.not_lt.2 h1))).trans (h.block k hk hn)⟩
theorem ae.tr(h:ae fp w w')(h':ae fp w' cg):ae fp w cg:=h.trans h' fun _ hk=>.inl hk
theorem ae.dt(h:ae fp w w')(h':ae [] w' cg):ae fp w cg:=h.trans h' fun _ hk=>by cases hk
theorem ae.mono(h:ae fp w w')(hf:∀k∈fp,k∈fp'∨w.heap.size≤k):ae fp' w w':=(ae.refl fp' w).trans h hf
theorem ae.bG(h:ae [] w w'):ae fp w w':=h.mono fun _ hk=>by cases hk
theorem ae.drew(h:ae fp w w'):ae fp w w'.drew:=⟨h.os,h.tape,h.output,h.size,h.block⟩
theorem ae.alloc(h:ae fp w w')(ob:Obj):ae fp w (w'.alloc ob):=
 ⟨h.os,h.tape,h.output,by rw[World.size_alloc];exact Nat.le_succ_of_le h.size,fun k hk hn=>(heap_alloc_old w' ob k (Nat.lt_of_lt_of_le hk h.size)).trans (h.block k hk hn)⟩
theorem setRow_size(w:World)(b:Nat)(X:Array Value):(w.setRow b X).heap.size=w.heap.size:=by simp[World.setRow]
theorem ae.setRow(h:ae fp w w')(b:Nat)(X:Array Value)(hb:b∈fp∨w.heap.size≤b):ae fp w (w'.setRow b X):=
 ⟨h.os,h.tape,h.output,by rw[setRow_size];exact h.size,fun k hk hn=>by
  have bS:k≠b:=fun e=>hb.elim (fun h1=>hn (e▸h1)) fun h1=>absurd hk (Nat.not_lt.2 (e▸h1));rw[setRow_other _ b k X bS];exact h.block k hk hn⟩
theorem ae.grown{row:Option Nat}(h:ae fp w w')(hg:w'.grownBy cg row)(hr:∀k,row=some k→k∈fp∨w.heap.size≤k):ae fp w cg:=
 ⟨hg.os.trans h.os,hg.tape.trans h.tape,hg.output.trans h.output,Nat.le_trans h.size hg.size,fun k hk hn=>
  (hg.block k (Nat.lt_of_lt_of_le hk h.size) (fun e=>(hr k e.symm).elim hn fun h1=>absurd hk (Nat.not_lt.2 h1))).trans (h.block k hk hn)⟩
theorem ae.af(h:ae fp w w'){b:Nat}{L:List Value}{e:TypeId}(hb:ak w b L e)(hn:b∉fp):ak w' b L e:=(h.block b hb.lt hn).trans hb
theorem ae.owns(h:ae fp w w'){base e size n:Nat}{v:Value}{xs:List Value}(ho:w.ownsRow base e size v n xs)(hn:∀k,v.ownBlock=some k→k∉fp):w'.ownsRow base e size v n xs:=by
 refine⟨ho.1,?_⟩;rcases ho.2 with h0|⟨g,cap,cur,rfl,hb,hg,r⟩
 ·exact .inl h0
 ·refine .inr ⟨g,cap,cur,rfl,hb,?_,r⟩;rw[h.block g (Array.getElem?_eq_some_iff.1 hg).1 (hn g rfl)];exact hg
theorem ae.below(h:ae fp w w')(hf:∀k∈fp,w.heap.size≤k):Go.RowKit.Below w.heap.size w w':=
 ⟨h.os,h.tape,h.output,h.size,fun k hk=>h.block k hk fun hm=>by have:=hf k hm;omega⟩
end
theorem Ut{w:World}{base e size n g cap q:Nat}{xs cs:List Value}(h:w.ownsRow base e size (.slice (some ⟨g,0,none⟩) n cap) n xs)(hc:(xs.drop q).take cs.length=cs):w.rangeAt g q cs:=fun j u hu=>by
 rw[←hc,List.getElem?_take]at hu;split at hu
 ·have:=h.cells (g:=g) rfl (q+j) u (by simpa using hu)
  rwa [Addr.add_mid,Nat.zero_add]at this
 ·cases hu
theorem wy{α:Type}{f:α→List Value}{k:Nat}:∀{L:List α} {j:Nat} {p:α},(∀p∈L,(f p).length=k)→L[j]?=some p→((L.flatMap f).drop (j*k)).take k=f p
 |[],_,_,_,h=>by simp at h
 |a::r,0,p,hk,h=>by
  simp at h;subst h;have:=hk a (by simp);simp[←this]
 |a::r,j+1,p,hk,h=>by
  simp only[List.getElem?_cons_succ]at h;have ha:=hk a (by simp);have ih:=wy (f:=f) (k:=k) (fun p hp=>hk p (List.mem_cons_of_mem _ hp)) h;rw[List.flatMap_cons,Nat.succ_mul,Nat.add_comm,←List.drop_drop];rw[←ha,List.drop_left,ha];exact ih
theorem TX{α:Type}{f:α→List Value}{k:Nat}:∀{L:List α},(∀p∈L,(f p).length=k)→(L.flatMap f).length=L.length*k
 |[],_=>by simp
 |a::r,hk=>by
  rw[List.flatMap_cons,List.length_append,hk a (by simp),TX fun p hp=>hk p (List.mem_cons_of_mem _ hp),List.length_cons,Nat.succ_mul];omega
def wE(P:Program)(t e size bytes:Nat):Bool:=
 match P.underlying t with
 |some (.slice e')=>e'==e&&(match P.info? e with
  |some i=>i.size==size&&i.bytes==bytes&&(match i.zero with|some z=>z.cells.size==size|none=>false)
  |none=>false)
 |_=>false
theorem NJ{P:Program}{t e size bytes:Nat}(h:wE P t e size bytes=true):∃i z,P.underlying t=some (.slice e)∧P.info? e=some i∧i.zero=some z∧i.size=size∧i.bytes=bytes∧z.cells.size=size:=by
 unfold wE at h;split at h
 ·rename_i e' hu
  simp only[Bool.and_eq_true,beq_iff_eq]at h;obtain⟨rfl,h⟩:=h;split at h
  ·rename_i i hi
   simp only[Bool.and_eq_true,beq_iff_eq]at h;obtain⟨⟨h1,h2⟩,h3⟩:=h;split at h3
   ·rename_i z hz
    exact⟨i,z,hu,hi,hz,h1,h2,by simpa using h3⟩
   ·cases h3
  ·cases h
 ·cases h
theorem Na{P:Program}{n:Nat}{σ:Env}{o:Oper}{w:World}{v:Value}{t:TypeId}{s x:Operand}{b q m c ln:Nat}{K:Value→World→Prop}(base e size bytes:Nat)(xs news:List Value) (ho:o.op=.call {callee:=.builtin .append,args:=#[s,x],argTypes:=#[t,t]})(hs:ev σ s=some v)(hx:ev σ x=some (.slice (some ⟨b,q,none⟩) m c)) (hP:wE P t e size bytes=true)(bw:0<size)(bW:w.ownsRow base e size v ln xs)(Pu:w.rangeAt b q news)(hl:news.length=m*size)(h1:∀u∈news,u.oneCell'=true) (hm:0<m)(HG:ln+m≤maxLen)(Ke:(ln+m)*bytes≤140737488355328)(D1:base≤w.heap.size) (hK:∀g cap w',w'.ownsRow base e size (.slice (some ⟨g,0,none⟩) (ln+m) cap) (ln+m) (xs++news)→w.grownBy w' v.ownBlock→(v.ownBlock=some g∨g=w.heap.size)→g<w'.heap.size→K (.slice (some ⟨g,0,none⟩) (ln+m) cap) w'):iE P n σ o w K:=by
 obtain⟨i,z,hu,hi,hz,KA,LX,LY⟩:=NJ hP;obtain⟨g,cap,w',hr,h2,h3,h4,h5⟩:=run_append_lies (P:=P) w t o.type base e i z size bytes hu hi hz KA LX LY bw v ln xs bW ⟨b,q,none⟩ m c news hl (fun j u hj=>by rw[Addr.add_mid];exact Pu j u hj) h1 hm HG Ke D1 _ rfl;refine wm (w':=w') (v:=.slice (some ⟨g,0,none⟩) (ln+m) cap) (fun a ha=>?_) (hK g cap w' h2 h3 h4 h5);simp[execOp,ho,resolve,invoke,builtin,ha.eval hs,ha.eval hx,hr]
def ints(l:List Int):List Value:=l.map fun x=>.int .i64 x
theorem bQ(l:List Int):(ints l).length=l.length:=by simp[ints]
theorem k6(l:List Int):∀u∈ints l,u.oneCell'=true:=by
 intro u hu;simp only[ints,List.mem_map]at hu;obtain⟨x,_,rfl⟩:=hu;rfl
theorem wF{l:List Int}(h:l.length=8):∃a b c d e f g i,l=[a,b,c,d,e,f,g,i]:=by
 match l,h with
 |[a,b,c,d,e,f,g,i],_=>exact⟨a,b,c,d,e,f,g,i,rfl⟩
def Gs(P:Program)(t len:Nat):Bool:=
 match P.underlying t with
 |some (.array l e)=>l==len&&(match P.underlying e with|some (.int _)=>true|_=>false)&&dH P e 1&&!(P.eqGuardType P.depth t)
 |_=>false
theorem adS{P:Program}{t len:Nat}(h:Gs P t len=true):∃e k i,P.underlying t=some (.array len e)∧P.underlying e=some (.int k)∧P.info? e=some i∧i.size=1∧P.eqGuardType P.depth t=false:=by
 unfold Gs at h;split at h
 ·rename_i l e hu
  simp only[Bool.and_eq_true,beq_iff_eq,Bool.not_eq_true']at h;obtain⟨⟨⟨rfl,h1⟩,h2⟩,h3⟩:=h;split at h1
  ·rename_i k hk
   unfold dH at h2;split at h2
   ·rename_i i hi
    exact⟨e,k,i,hu,hk,hi,by simpa using h2,h3⟩
   ·cases h2
  ·cases h1
 ·cases h
theorem afM{P:Program}{e:TypeId}{k:IntKind}{l:List Int}{j:Nat}{x:Int}(hu:P.underlying e=some (.int k))(hx:l[j]?=some x)(w:World):(part e (ints l).toArray j).run P w=.ok (.int .i64 x) w:=by
 have hg:(ints l).toArray[j]?=some (.int .i64 x):=by simp[ints,hx]
 simp[part,isAgg,run_underlying hu,hg]
section
variable{P:Program}{T:fV}{n:Nat}{σ:Env}{o:Oper}
theorem Kf{t len:Nat}{x ix:Operand}{kk:IntKind}(xs:List Int)(j:Nat){i c:Int}(h:Gs P t len=true)(ho:o.op=.index t x ix)(hx:ev σ x=some (.agg (ints xs).toArray))(hi:ev σ ix=some (.int kk i)) (q_:i=(j:Int))(hj:j<len)(hc:xs[j]?=some c)(w:World):cS P n σ o w (.int .i64 c):=by
 intro a ha;subst q_;obtain⟨e,k,inf,hu,hk,amy,hs,_⟩:=adS h;have bw:(sizeOf e).run P w=.ok 1 w:=by simp[sizeOf,typeInfo,amy,hs]
 simp[execOp,ho,ha.eval hx,ha.eval hi,Instr.index,asIntOf,run_underlying hu,hj,bw,afM hk hc]
end
section
variable{P:Program}{T:fV}{n:Nat}{σ:Env}{o:Oper}{w:World}{v:Value}
theorem I7{t:TypeId}{x hi:Operand}{a:Option Addr}{len cap sz:Nat}{k1:IntKind}{i1:Int}(h:Nat)(hT:T.check P=true)(ho:o.op=.slice t x none (some hi) none)(hx:ev σ x=some (.slice a len cap)) (h1:ev σ hi=some (.int k1 i1))(ht:find T.sl t=some sz)(e1:i1=(h:Int))(hm:h≤cap)(w:World):cS P n σ o w (.slice a h cap):=by
 intro ac ha;subst e1;have hs:=fV.D0 hT ht;unfold zX at hs;split at hs
 ·rename_i e hu
  simp[execOp,ho,ha.eval hx,ha.eval h1,Instr.sliceAt,Instr.slice,Instr.sliceBounds,Instr.sliceBound,asIntOf,run_underlying hu,wi hs,hm];cases a<;>simp[Addr.add]
 ·cases hs
theorem C_{t:TypeId}{x lo:Operand}{b q len sz:Nat}{k1:IntKind}{i1:Int}(l:Nat)(hT:T.check P=true)(ho:o.op=.slice t x (some lo) none none)(hx:ev σ x=some (.pointer (some ⟨b,q,none⟩))) (h1:ev σ lo=some (.int k1 i1))(ht:find T.ar t=some (len,sz))(e1:i1=(l:Int))(hm:l<len)(w:World):cS P n σ o w (.slice (some ⟨b,q+l*sz,none⟩) (len-l) (len-l)):=by
 intro a ha;subst e1;have hs:=fV.Pp hT ht;unfold GP at hs;split at hs
 ·rename_i l' e hu
  simp only[Bool.and_eq_true,beq_iff_eq]at hs;obtain⟨rfl,hs⟩:=hs;have hle:l≤l':=Nat.le_of_lt hm;have bS:¬l'=l:=by omega
  simp[execOp,ho,ha.eval hx,ha.eval h1,Instr.sliceAt,Instr.sliceBounds,Instr.sliceBound,asIntOf,Instr.sureAddr,run_underlying hu,wi hs,hle,bS,Addr.add_mid]
 ·cases hs
def YB(P:Program)(t:Nat):Bool:=
 match P.underlying t with
 |some (.slice e)=>dH P e 1
 |_=>false
theorem Dq{t t':TypeId}{x y:Operand}{b q dl dc b' q' sl sc:Nat}{L:List Value}{e:TypeId}{K:Value→World→Prop}(cs:List Value) (ho:o.op=.call {callee:=.builtin .copy,args:=#[x,y],argTypes:=#[t,t']})(hx:ev σ x=some (.slice (some ⟨b,q,none⟩) dl dc))(hy:ev σ y=some (.slice (some ⟨b',q',none⟩) sl sc)) (hP:YB P t=true)(hb:ak w b L e)(hn:cs.length=Nat.min sl dl)(amz:w.rangeAt b' q' cs)(hl:q+cs.length≤L.length)(h1:∀u∈cs,u.oneCell'=true) (hK:∀r,K r (w.setRow b (b_ L q cs).toArray)):iE P n σ o w K:=by
 unfold YB at hP;split at hP
 ·rename_i el hu
  refine wm (v:=goInt cs.length) (w':=w.setRow b (b_ L q cs).toArray) (fun a ha=>?_) (hK _);have hr:=run_copy_row P w t t' o.type el b q dl dc ⟨b',q',none⟩ sl sc L.toArray e cs hu (TV hP) hb hn (fun j u hj=>by rw[Addr.add_mid];exact amz j u hj) (by simpa using hl) h1;have Ro:(Builtin.copy_ #[t,t'] o.type #[.slice (some ⟨b,q,none⟩) dl dc,.slice (some ⟨b',q',none⟩) sl sc]).run P w=.ok (goInt cs.length) (w.setRow b (b_ L q cs).toArray):=by
   rw[hr];simp[b_]
  simp[execOp,ho,resolve,invoke,builtin,ha.eval hx,ha.eval hy,Ro]
 ·cases hP
def Wd(P:Program)(s f off:Nat):Bool:=
 match P.underlying s with
 |some (.struct fs)=>match fs[f]?with
  |some d=>d.offset==off&&BG P d.type
  |none=>false
 |_=>false
def We(P:Program)(s f off m:Nat):Bool:=
 match P.underlying s with
 |some (.struct fs)=>match fs[f]?with
  |some d=>d.offset==off&&Eh P d.type m
  |none=>false
 |_=>false
theorem adT{t:Nat}(hs:BG P t=true)(w:World):(isAgg t).run P w=.ok false w:=by
 unfold BG at hs;cases hu:P.underlying t with
 |none=>simp[hu]at hs
 |some d=>
  unfold isAgg;rw[Sem.run_bind,run_underlying hu w];cases d<;>simp_all
theorem aeB{t m:Nat}(hs:Eh P t m=true)(w:World):(isAgg t).run P w=.ok true w∧dH P t m=true:=by
 unfold Eh at hs;cases hu:P.underlying t with
 |none=>simp[hu]at hs
 |some d=>
  unfold isAgg;rw[Sem.run_bind,run_underlying hu w];cases d<;>simp_all
theorem Nq{s f:Nat}{x:Operand}(off:Nat)(cs:List Value)(ho:o.op=.field s x f)(hx:ev σ x=some (.agg cs.toArray))(hP:Wd P s f off=true)(hv:cs[off]?=some v)(w:World):cS P n σ o w v:=by
 intro a ha;unfold Wd at hP;split at hP
 ·rename_i fs hu
  split at hP
  ·rename_i d hd
   simp only[Bool.and_eq_true,beq_iff_eq]at hP;obtain⟨rfl,hP⟩:=hP;simp[execOp,ho,ha.eval hx,Instr.field,run_underlying hu,hd,asAgg,part,adT hP,hv]
  ·cases hP
 ·cases hP
theorem Tt{s f m:Nat}{x:Operand}(off:Nat)(cs ds:List Value)(ho:o.op=.field s x f)(hx:ev σ x=some (.agg cs.toArray))(hP:We P s f off m=true)(hv:(cs.drop off).take m=ds)(w:World):cS P n σ o w (.agg ds.toArray):=by
 intro a ha;unfold We at hP;split at hP
 ·rename_i fs hu
  split at hP
  ·rename_i d hd
   simp only[Bool.and_eq_true,beq_iff_eq]at hP;obtain⟨rfl,hP⟩:=hP;have h1:=aeB hP w;simp[execOp,ho,ha.eval hx,Instr.field,run_underlying hu,hd,asAgg,part,h1.1,wi h1.2,hv]
  ·cases hP
 ·cases hP
end
def zK(P:Program)(t:Nat):Bool:=
 match P.underlying t with
 |some (.pointer _)=>true
 |_=>false
theorem FN{P:Program}{n:Nat}{σ:Env}{o:Oper}{t t':Nat}{x:Operand}{ad:Addr}(h:zK P t=true)(ho:o.op=.binOp .neq t x (.const (.pointer none)) t')(hx:ev σ x=some (.pointer (some ad)))(w:World):cS P n σ o w (.bool true):=by
 intro a ha;unfold zK at h;split at h
 ·rename_i e hu
  have he:∀d,(Op.equalIn (d+1) t (.pointer (some ad)) (.pointer none)).run P w=.ok false w:=fun d=>by
   simp[Op.equalIn,run_underlying hu]
  have tA:(Op.equal t (.pointer (some ad)) (.pointer none)).run P w=.ok false w:=he 9999;have hc:a.eval (.const (.pointer none))=.pointer none:=rfl;simp[execOp,ho,ha.eval hx,hc,eqGuard,binOp,tA]
 ·cases h
theorem ak.ne{w:World}{a b:Nat}{L L':List Value}{e e':TypeId}(h:ak w a L e)(h':ak w b L' e')(bS:e≠e'):a≠b:=fun hab=>by
 subst hab;unfold ak at h h';rw[h]at h';simp at h';exact bS h'.2
section
variable{P:Program}{n:Nat}{σ:Env}{o:Oper}
def isStr(P:Program)(t:Nat):Bool:=
 match P.underlying t with
 |some .string=>true
 |_=>false
theorem xU{t:Nat}(h:isStr P t=true):P.underlying t=some .string:=by
 unfold isStr at h;split at h
 ·rename_i hu;exact hu
 ·cases h
theorem Dt{t:Nat}{x ix:Operand}{kk:IntKind}(s:ByteArray)(j:Nat)(c:UInt8){i:Int}(h:isStr P t=true)(ho:o.op=.index t x ix)(hx:ev σ x=some (.string s))(hi:ev σ ix=some (.int kk i)) (q_:i=(j:Int))(hc:s[j]?=some c)(w:World):cS P n σ o w (.int .u8 (c.toNat:Nat)):=by
 intro a ha;subst q_;simp[execOp,ho,ha.eval hx,ha.eval hi,Instr.index,asIntOf,run_underlying (xU h),hc]
theorem zo{t:Nat}{x:Operand}(s:ByteArray)(h:isStr P t=true)(ho:o.op=.call {callee:=.builtin .len,args:=#[x],argTypes:=#[t]})(hx:ev σ x=some (.string s))(w:World):cS P n σ o w (.int .i64 (s.size:Nat)):=by
 intro a ha;simp[execOp,ho,resolve,invoke,builtin,Builtin.len_,run_underlying (xU h),ha.eval hx,goInt]
theorem o_{t t':Nat}{x y:Operand}(a b:ByteArray)(r:Bool)(ho:o.op=.binOp .eql t x y t')(hx:ev σ x=some (.string a))(hy:ev σ y=some (.string b))(hr:(a.toList==b.toList)=r)(w:World):cS P n σ o w (.bool r):=by
 intro ac ha;subst hr;simp[execOp,ho,ha.eval hx,ha.eval hy,eqGuard,binOp,Op.stringOp]
theorem afN{t t':Nat}{x y:Operand}(a b:ByteArray)(r:Bool)(ho:o.op=.binOp .neq t x y t')(hx:ev σ x=some (.string a))(hy:ev σ y=some (.string b))(hr:(!(a.toList==b.toList))=r)(w:World):cS P n σ o w (.bool r):=by
 intro ac ha;subst hr;simp[execOp,ho,ha.eval hx,ha.eval hy,eqGuard,binOp,Op.stringOp]
end
def Own(w:World)(B e size:Nat)(v:Value)(n:Nat)(xs:List Value):Prop:=
 xs.length=n*size∧((v=.slice none 0 0∧n=0)∨
  ∃g cap cur,v=.slice (some ⟨g,0,none⟩) n cap∧B≤g∧ak w g cur e∧n≤cap∧cap*size≤cur.length∧cur.take (n*size)=xs)
def sK:Value→Nat
 |.slice _ _ c=>c
 |_=>0
section
variable{w w':World}{B e size n:Nat}{v:Value}{xs:List Value}
theorem Own.nil(w:World)(B e size:Nat):Own w B e size (.slice none 0 0) 0 []:=⟨by simp,.inl ⟨rfl,rfl⟩⟩
theorem Own.lt(h:Own w B e size v n xs):∀k,v.ownBlock=some k→B≤k∧k<w.heap.size:=by
 intro k hk;rcases h.2 with⟨rfl,_⟩|⟨g,cap,cur,rfl,hb,hg,_⟩
 ·simp[Value.ownBlock]at hk
 ·simp[Value.ownBlock]at hk;subst hk;exact⟨hb,hg.lt⟩
theorem Own.keep{fp:List Nat}(h:Own w B e size v n xs)(hk:ae fp w w')(hn:∀k,v.ownBlock=some k→k∉fp):Own w' B e size v n xs:=by
 refine⟨h.1,?_⟩;rcases h.2 with h0|⟨g,cap,cur,rfl,hb,hg,r⟩
 ·exact .inl h0
 ·exact .inr ⟨g,cap,cur,rfl,hb,hk.af hg (hn g rfl),r⟩
theorem Own.form(h:Own w B e size v n xs):∃a cap,v=.slice a n cap:=by
 rcases h.2 with⟨h1,h2⟩|⟨g,cap,cur,h1,_⟩
 ·exact⟨none,0,by rw[h1,h2]⟩
 ·exact⟨_,cap,h1⟩
theorem Own.range(h:Own w B e size v n xs){q:Nat}{cs:List Value}(hc:(xs.drop q).take cs.length=cs)(h0:0<n):∃g cap,v=.slice (some ⟨g,0,none⟩) n cap∧w.rangeAt g q cs:=by
 rcases h.2 with⟨_,h2⟩|⟨g,cap,cur,h1,_,hb,_,_,ht⟩
 ·omega
 ·refine⟨g,cap,h1,fun j u hu=>hb.cell ?_⟩;rw[←hc,List.getElem?_take]at hu;split at hu
  ·rw[List.getElem?_drop,←ht,List.getElem?_take]at hu;split at hu
   ·exact hu
   ·cases hu
  ·cases hu
theorem Own.akN(h:Own w B e size v n xs):n≤sK v:=by
 rcases h.2 with⟨_,h2⟩|⟨g,cap,cur,h1,_,_,hc,_⟩
 ·omega
 ·rw[h1];exact hc
theorem Uu{w w':World}{row:Option Nat}(hg:w.grownBy w' row):ae row.toList w w':=(ae.refl _ _).grown hg fun k e=>.inl (by simp[e])
end
theorem ja{P:Program}{n:Nat}{σ:Env}{o:Oper}{w:World}{v:Value}{t:TypeId}{s x:Operand}{b q m c ln:Nat}{K:Value→World→Prop}(B e size bytes:Nat)(xs news:List Value) (ho:o.op=.call {callee:=.builtin .append,args:=#[s,x],argTypes:=#[t,t]})(hs:ev σ s=some v)(hx:ev σ x=some (.slice (some ⟨b,q,none⟩) m c)) (hP:wE P t e size bytes=true)(bW:Own w B e size v ln xs)(Pu:w.rangeAt b q news)(hl:news.length=m*size)(h1:∀u∈news,u.oneCell'=true) (hm:0<m)(HG:ln+m≤maxLen)(Ke:(ln+m)*bytes≤140737488355328)(D1:B≤w.heap.size) (hK:∀g cap w',Own w' B e size (.slice (some ⟨g,0,none⟩) (ln+m) cap) (ln+m) (xs++news)→((v.ownBlock=some g∧ln+m≤sK v∧ae [g] w w')∨(g=w.heap.size∧ae [] w w'∧w'.heap.size=w.heap.size+1))→K (.slice (some ⟨g,0,none⟩) (ln+m) cap) w'):iE P n σ o w K:=by
 obtain⟨i,z,hu,hi,hz,KA,LX,LY⟩:=NJ hP;subst KA;subst LX;have hlen:(xs++news).length=(ln+m)*i.size:=by rw[List.length_append,bW.1,hl,Nat.add_mul]
 have O1:∀j u,news[j]?=some u→w.cell? ((⟨b,q,none⟩:Addr).add j)=some u:=fun j u hj=>by rw[Addr.add_mid];exact Pu j u hj
 have amA:((ln+m:Nat):Int)≤9223372036854775807:=by simp only[maxLen]at HG;omega
 have key:∀v' w',(Builtin.append_ #[t,t] o.type #[v,.slice (some ⟨b,q,none⟩) m c]).run P w=.ok v' w'→K v' w'→iE P n σ o w K:=fun v' w' hr hk=>
  wm (w':=w') (v:=v') (fun a ha=>by simp[execOp,ho,resolve,invoke,builtin,ha.eval hs,ha.eval hx,hr]) hk
 have qj:∀(pL:Nat) (cur:Array Value),cur=xs.toArray++news.toArray++Builtin.zeroCells z.cells (grownCap w (ln+m) pL e-(ln+m))→
   Own (w.drew.alloc (.cells cur e)) B e i.size (.slice (some ⟨w.heap.size,0,none⟩) (ln+m) (grownCap w (ln+m) pL e)) (ln+m) (xs++news)∧ae [] w (w.drew.alloc (.cells cur e)):=fun pL cur qk=>by
  have ij:=grownCap_ge w (ln+m) pL e;refine⟨⟨hlen,.inr ⟨w.heap.size,_,cur.toList,rfl,D1,?_,ij,?_,?_⟩⟩,((ae.refl _ _).drew).alloc _⟩
  ·have:=ak.new w.drew cur.toList e
   rwa [Array.toArray_toList]at this
  ·rw[qk];simp only[Array.toList_append,List.length_append,Array.length_toList,size_zeroCells,LY,bW.1,hl,←Nat.add_mul];rw[Nat.add_sub_cancel' ij];exact Nat.le_refl _
  ·rw[qk];simp only[Array.toList_append];rw[←hlen];exact List.take_left
 rcases bW.2 with⟨rfl,rfl⟩|⟨g,cap,cur,rfl,hbg,hg,uu,mA,Pw⟩
 ·have pK:xs=[]:=List.eq_nil_of_length_eq_zero (by simpa using bW.1);subst pK;have hr:=run_append_nil (P:=P) w t o.type e i z hu hi hz ⟨b,q,none⟩ m c news hl O1 hm (by omega) (by simp only[Nat.zero_add]at Ke;omega);have hn:=qj 0 (news.toArray++Builtin.zeroCells z.cells (grownCap w m 0 e-m)) (by simp);simp only[Nat.zero_add]at hn hK;exact key _ _ hr (hK _ _ _ hn.1 (.inr ⟨rfl,hn.2,World.size_alloc _ _⟩))
 ·by_cases ym:ln+m≤cap
  ·have uZ:ln*i.size+news.length≤cur.toArray.size:=by
    rw[hl,←Nat.add_mul,List.size_toArray];exact Nat.le_trans (Nat.mul_le_mul_right _ ym) mA
   have hr:=run_append_room (P:=P) w t o.type e i hu hi g ln cap cur.toArray hg ⟨b,q,none⟩ m c news hl O1 h1 ym uZ;refine key _ _ hr (hK _ _ _ ⟨hlen,.inr ⟨g,cap,_,rfl,hbg,hg.set _,ym,?_,?_⟩⟩ (.inl ⟨rfl,ym,(ae.refl _ _).setRow _ _ (.inl (by simp))⟩))
   ·simp only[List.size_toArray]at uZ;simp only[List.length_append,List.length_take,List.length_drop];omega
   ·rw[←hlen,Pw];exact List.take_left
  ·have holds:∀j u,xs[j]?=some u→w.cell? ((⟨g,0,none⟩:Addr).add j)=some u:=fun j u hj=>by
    rw[Addr.add_mid,Nat.zero_add];refine hg.cell ?_;rw[←Pw,List.getElem?_take]at hj;split at hj
    ·exact hj
    ·cases hj
   have hr:=run_append_grow (P:=P) w t o.type e i z hu hi hz ⟨g,0,none⟩ ln cap xs bW.1 holds ⟨b,q,none⟩ m c news hl O1 (by omega) amA (growslice_fits (by omega) Ke);have hn:=qj cap _ rfl;exact key _ _ hr (hK _ _ _ hn.1 (.inr ⟨rfl,hn.2,World.size_alloc _ _⟩))
section
variable{P:Program}{T:fV}{n:Nat}{σ:Env}{o:Oper}{w:World}
theorem ajk{t t':TypeId}{x y:Operand}(k:IntKind)(a b r:Int)(ho:o.op=.binOp .quo t x y t')(hx:ev σ x=some (.int k a))(hy:ev σ y=some (.int k b))(hb:b≠0) (hr:k.wrap (a.tdiv b)=r)(w:World):cS P n σ o w (.int k r):=by
 intro ac ha;subst hr;simp[execOp,ho,ha.eval hx,ha.eval hy,eqGuard,binOp,Op.intDiv,hb]
theorem amB(k:Nat)(h:k<1000000):IntKind.i64.wrap (((k:Nat):Int).tdiv 8)=((k/8:Nat):Int):=by
 have e:((k:Nat):Int).tdiv 8=((k/8:Nat):Int):=by
  rw[Int.tdiv_eq_ediv_of_nonneg (by omega)];omega
 rw[e,wrap_i64 (by omega) (by omega)]
theorem Vf{t t':Nat}{x:Operand}{ad:Addr}(h:zK P t=true)(ho:o.op=.binOp .eql t x (.const (.pointer none)) t')(hx:ev σ x=some (.pointer (some ad)))(w:World):cS P n σ o w (.bool false):=by
 intro a ha;unfold zK at h;split at h
 ·rename_i e hu
  have he:∀d,(Op.equalIn (d+1) t (.pointer (some ad)) (.pointer none)).run P w=.ok false w:=fun d=>by
   simp[Op.equalIn,run_underlying hu]
  have tA:(Op.equal t (.pointer (some ad)) (.pointer none)).run P w=.ok false w:=he 9999;have hc:a.eval (.const (.pointer none))=.pointer none:=rfl;simp[execOp,ho,ha.eval hx,hc,eqGuard,binOp,tA]
 ·cases h
def XC(P:Program)(t len:Nat):Bool:=
 match P.underlying t with
 |some (.array l e)=>l==len&&(match P.underlying e with|some .bool=>true|_=>false)&&dH P e 1
 |_=>false
theorem ajl{t len:Nat}{x ix:Operand}{kk:IntKind}(cs:List Value)(v:Value)(j:Nat){i:Int}(h:XC P t len=true)(ho:o.op=.index t x ix)(hx:ev σ x=some (.agg cs.toArray))(hi:ev σ ix=some (.int kk i)) (q_:i=(j:Int))(hj:j<len)(hc:cs[j]?=some v)(w:World):cS P n σ o w v:=by
 intro a ha;subst q_;unfold XC at h;split at h
 ·rename_i l e hu
  simp only[Bool.and_eq_true,beq_iff_eq]at h;obtain⟨⟨rfl,h1⟩,h2⟩:=h;split at h1
  ·rename_i hk
   have hg:cs.toArray[j]?=some v:=by simpa using hc
   simp[execOp,ho,ha.eval hx,ha.eval hi,Instr.index,asIntOf,run_underlying hu,hj,wi h2,part,isAgg,run_underlying hk];simp[hc]
  ·cases h1
 ·cases h
theorem afO{t e:TypeId}{l c:Operand}{k1 k2:IntKind}{K:Value→World→Prop}(len:Nat)(cells:List Value)(i:TypeInfo)(z:Value)(ho:o.op=.makeSlice t l c)(hl:ev σ l=some (.int k1 (len:Nat)))(hc:ev σ c=some (.int k2 (len:Nat))) (ht:P.underlying t=some (.slice e))(hi:P.info? e=some i)(hz:i.zero=some z)(hb:(i.bytes:Int)*((len:Nat):Int)≤281474976710656)(HG:((len:Nat):Int)≤9223372036854775807) (O2:madeCells z.cells (len*i.size)=cells.toArray)(hK:K (.slice (some ⟨w.heap.size,0,none⟩) len len) (w.alloc (.cells cells.toArray e))):iE P n σ o w K:=by
 refine wm (w':=w.alloc (.cells cells.toArray e)) (v:=.slice (some ⟨w.heap.size,0,none⟩) len len) (fun a ha=>?_) hK;have hr:=run_make (P:=P) w t e i z ht hi hz k1 k2 ((len:Nat):Int) ((len:Nat):Int) (by omega) (Int.le_refl _) hb HG;simp only[Int.toNat_natCast]at hr;rw[O2]at hr;simp[execOp,ho,ha.eval hl,ha.eval hc,hr]
end
def fR(op:BinOp)(a b:Int):Prop:=
 match op with
 |.eql=>a=b
 |.neq=>a≠b
 |.lss=>a<b
 |.leq=>a≤b
 |.gtr=>a>b
 |.geq=>a≥b
 |_=>False
def Gx(op:BinOp):Bool:=
 match op with
 |.eql|.neq|.lss|.leq|.gtr|.geq=>true
 |_=>false
theorem Vg{op:BinOp}{k:IntKind}{a b:Int}(h:fR op a b):bU op k a b=some (.bool true):=by
 cases op<;>simp_all[fR,bU]
theorem Wf{op:BinOp}{k:IntKind}{a b:Int}(hk:Gx op=true)(h:¬fR op a b):bU op k a b=some (.bool false):=by
 cases op<;>simp_all[fR,Gx,bU]
def kK(op:BinOp)(a b v:Int):Prop:=
 match op with
 |.add=>v=a+b∧-9223372036854775808≤a+b∧a+b<9223372036854775808
 |.sub=>v=a-b∧-9223372036854775808≤a-b∧a-b<9223372036854775808
 |_=>False
theorem Vh{op:BinOp}{a b v:Int}(h:kK op a b v):bU op .i64 a b=some (.int .i64 v):=by
 cases op<;>simp only[kK]at h
 ·obtain⟨rfl,h1,h2⟩:=h;simp only[bU,wrap_i64 h1 h2]
 ·obtain⟨rfl,h1,h2⟩:=h;simp only[bU,wrap_i64 h1 h2]
section
variable{P:Program}{f n:Nat}{ops:Array Oper}{k:List Item}{R:pC}{σ:Env}{w:World}{o:Oper}{l:List Oper}{op:BinOp}{t t':TypeId}{x y:Operand}{kk:IntKind}{a b:Int}
theorem O0(hg:guardOf ops σ o.guard=some true)(ho:o.op=.binOp op t x y t')(hx:ev σ x=some (.int kk a))(hy:ev σ y=some (.int kk b))(hd:fJ n o.dst=true)(hc:fR op a b)
  (h:Pl P f n ops k R l (put σ o.dst (.bool true)) w):Pl P f n ops k R (o::l) σ w:=zC _ hg hd (Bi kk a b _ ho hx hy (Vg hc) w) h
theorem Pt(hg:guardOf ops σ o.guard=some true)(ho:o.op=.binOp op t x y t')(hx:ev σ x=some (.int kk a))(hy:ev σ y=some (.int kk b))(hd:fJ n o.dst=true)(hk:Gx op=true)(hc:¬fR op a b)
  (h:Pl P f n ops k R l (put σ o.dst (.bool false)) w):Pl P f n ops k R (o::l) σ w:=zC _ hg hd (Bi kk a b _ ho hx hy (Wf hk hc) w) h
theorem yi(v:Int)(hg:guardOf ops σ o.guard=some true)(ho:o.op=.binOp op t x y t')(hx:ev σ x=some (.int .i64 a))(hy:ev σ y=some (.int .i64 b))(hd:fJ n o.dst=true)(hc:kK op a b v)
  (h:Pl P f n ops k R l (put σ o.dst (.int .i64 v)) w):Pl P f n ops k R (o::l) σ w:=zC _ hg hd (Bi .i64 a b _ ho hx hy (Vh hc) w) h
theorem alB{v:Int}(_:Iv v)(hg:guardOf ops σ o.guard=some true)(ho:o.op=.binOp op t x y t')(hx:ev σ x=some (.int .i64 a))(hy:ev σ y=some (.int .i64 b))(hd:fJ n o.dst=true)(hc:kK op a b v)
  (h:Pl P f n ops k R l (put σ o.dst (.int .i64 v)) w):Pl P f n ops k R (o::l) σ w:=yi v hg ho hx hy hd hc h
variable{S:World→Prop}{T:List Nat}{fuel m:Nat}
theorem akO(i:Nat)(hi:ops[i]?=some o)(hk:pj ops m i=true)(hg:guardOf ops σ o.guard=some true)(ho:o.op=.binOp op t x y t')(hx:ev σ x=some (.int kk a))(hy:ev σ y=some (.int kk b))(hd:fJ n o.dst=true)(hc:fR op a b)
  (h:Dr P f n ops k R S T fuel (m|||2^i) (put σ o.dst (.bool true)) w):Dr P f n ops k R S T (fuel+1) m σ w:=Gq i _ hi hk hg hd (fun w=>Bi kk a b _ ho hx hy (Vg hc) w) h
theorem alC(i:Nat)(hi:ops[i]?=some o)(hk:pj ops m i=true)(hg:guardOf ops σ o.guard=some true)(ho:o.op=.binOp op t x y t')(hx:ev σ x=some (.int kk a))(hy:ev σ y=some (.int kk b))(hd:fJ n o.dst=true)(cT:Gx op=true)(hc:¬fR op a b)
  (h:Dr P f n ops k R S T fuel (m|||2^i) (put σ o.dst (.bool false)) w):Dr P f n ops k R S T (fuel+1) m σ w:=Gq i _ hi hk hg hd (fun w=>Bi kk a b _ ho hx hy (Wf cT hc) w) h
theorem uT(i:Nat)(v:Int)(hi:ops[i]?=some o)(hk:pj ops m i=true)(hg:guardOf ops σ o.guard=some true)(ho:o.op=.binOp op t x y t')(hx:ev σ x=some (.int .i64 a))(hy:ev σ y=some (.int .i64 b))(hd:fJ n o.dst=true)(hc:kK op a b v)
  (h:Dr P f n ops k R S T fuel (m|||2^i) (put σ o.dst (.int .i64 v)) w):Dr P f n ops k R S T (fuel+1) m σ w:=Gq i _ hi hk hg hd (fun w=>Bi .i64 a b _ ho hx hy (Vh hc) w) h
theorem YA{i:Nat}(hi:ops[i]?=some o)(hk:pj ops m i=true)(hg:guardOf ops σ o.guard=some true)(ho:o.op=.binOp op t x y t')(hx:ev σ x=some (.int kk a))(hy:ev σ y=some (.int kk b))(hd:fJ n o.dst=true)(hc:fR op a b):
  Tg i (Dr P f n ops k R S T fuel (m|||2^i) (put σ o.dst (.bool true)) w→Dr P f n ops k R S T (fuel+1) m σ w):=fun h=>akO i hi hk hg ho hx hy hd hc h
theorem Y7{i:Nat}(hi:ops[i]?=some o)(hk:pj ops m i=true)(hg:guardOf ops σ o.guard=some true)(ho:o.op=.binOp op t x y t')(hx:ev σ x=some (.int kk a))(hy:ev σ y=some (.int kk b))(hd:fJ n o.dst=true)(cT:Gx op=true)(hc:¬fR op a b):
  Tg i (Dr P f n ops k R S T fuel (m|||2^i) (put σ o.dst (.bool false)) w→Dr P f n ops k R S T (fuel+1) m σ w):=fun h=>alC i hi hk hg ho hx hy hd cT hc h
end
section
variable{P:Program}{n:Nat}{σ:Env}{o:Oper}{w:World}{v:Value}{K:Value→World→Prop}
theorem Vi{t:TypeId}{x:Operand}(cs:List Value)(ho:o.op=.box t x)(hx:ev σ x=some v)(hc:v.cells=cs.toArray) (hK:∀w1 b,b=w.heap.size→w1.heap.size=b+1→ae [] w w1→ak w1 b cs t→K (.pointer (some ⟨b,0,none⟩)) w1):iE P n σ o w K:=
 qG cs ho hx hc (hK _ _ rfl (World.size_alloc _ _) ((ae.refl _ _).alloc _) (ak.new _ _ _))
theorem bO{t:TypeId}(cs:List Value)(ho:o.op=.alloc t)(hz:((P.info? t).bind (·.zero)).map (·.cells)=some cs.toArray) (hK:∀w1 b,b=w.heap.size→w1.heap.size=b+1→ae [] w w1→ak w1 b cs t→K (.pointer (some ⟨b,0,none⟩)) w1):iE P n σ o w K:=
 nD cs ho hz (hK _ _ rfl (World.size_alloc _ _) ((ae.refl _ _).alloc _) (ak.new _ _ _))
theorem eE{t len:Nat}{ps:Array (Nat×Operand)}{vs:List (Nat×Value)}(e:TypeId)(cells:List Value)(ho:o.op=.buildSlice t len ps)(hv:zA σ ps.toList=some vs) (hb:kE P t len vs=some (e,cells.toArray))(hK:∀w1 b,b=w.heap.size→w1.heap.size=b+1→ae [] w w1→ak w1 b cells e→K (.slice (some ⟨b,0,none⟩) len len) w1):iE P n σ o w K:=
 Da e cells ho hv hb (hK _ _ rfl (World.size_alloc _ _) ((ae.refl _ _).alloc _) (ak.new _ _ _))
theorem xS{t:TypeId}{x y:Operand}{b i:Nat}{L:List Value}{e:TypeId}(cs:List Value)(ho:o.op=.store t x y)(hx:ev σ x=some (.pointer (some ⟨b,i,none⟩)))(hy:ev σ y=some v)(hc:v.cells=cs.toArray) (hz:dH P t cs.length=true)(hb:ak w b L e)(hl:i+cs.length≤L.length)(h1:∀u∈cs,u.oneCell'=true) (hK:∀w1,w1.heap.size=w.heap.size→ae [b] w w1→ak w1 b (b_ L i cs) e→K undef w1):iE P n σ o w K:=
 iL cs ho hx hy hc hz hb hl h1 (hK _ (setRow_size _ _ _) ((ae.refl _ _).setRow _ _ (.inl (by simp))) (hb.set _))
end
theorem ae.aO{fp:List Nat}{w w' cg:World}{b:Nat}(h:ae fp w w')(h':ae [b] w' cg)(hb:w.heap.size≤b):ae fp w cg:=
 h.trans h' fun k hk=>.inr (by simp at hk;omega)
theorem cV{P:Program}{T:fV}{w:World}{c:Nat}{L:List Value}{e t:TypeId}(hT:T.check P=true)(h:ak w c L e)(ht:find T.ag t=some L.length):(loadVar t ⟨c,0,none⟩).run P w=.ok (.agg L.toArray) w:=
 wh hT ht (h.range (by simp))
theorem bs{L cs:List Value}(h:cs.length=L.length):b_ L 0 cs=cs:=by
 simp[b_,h]
def In(F:Nat→Prop)(w:World):Prop:=∀k,F k→k<w.heap.size
section
variable{F:Nat→Prop}{w w':World}{fp:List Nat}
theorem In.keep(h:In F w)(hk:ae fp w w'):In F w':=fun k hF=>Nat.lt_of_lt_of_le (h k hF) hk.size
end
theorem ft{w w':World}{b q:Nat}{cs:List Value}{fp:List Nat}(h:w.rangeAt b q cs)(hk:ae fp w w')(hb:b<w.heap.size)(hn:b∉fp):w'.rangeAt b q cs:=fun j v hv=>by
 rw[World.cell?_of_block (w:=w) (hk.block b hb hn)];exact h j v hv
section
variable{P:Program}{n:Nat}{σ:Env}{o:Oper}
theorem aeC{t:Nat}{x lo hi:Operand}{k1 k2:IntKind}{i1 i2:Int}(s:ByteArray)(l h:Nat)(ht:isStr P t=true)(ho:o.op=.slice t x (some lo) (some hi) none)(hx:ev σ x=some (.string s)) (h1:ev σ lo=some (.int k1 i1))(h2:ev σ hi=some (.int k2 i2))(e1:i1=(l:Int))(e2:i2=(h:Int))(hl:l≤h)(hh:h≤s.size)(w:World):cS P n σ o w (.string (s.extract l h)):=by
 intro ac ha;subst e1;subst e2;simp[execOp,ho,ha.eval hx,ha.eval h1,ha.eval h2,Instr.sliceAt,Instr.slice,Instr.sliceBounds,Instr.sliceBound,asIntOf,run_underlying (xU ht),hl,hh]
theorem adU{t:Nat}{x lo:Operand}{k1:IntKind}{i1:Int}(s:ByteArray)(l:Nat)(ht:isStr P t=true)(ho:o.op=.slice t x (some lo) none none)(hx:ev σ x=some (.string s)) (h1:ev σ lo=some (.int k1 i1))(e1:i1=(l:Int))(hl:l≤s.size)(w:World):cS P n σ o w (.string (s.extract l s.size)):=by
 intro ac ha;subst e1;simp[execOp,ho,ha.eval hx,ha.eval h1,Instr.sliceAt,Instr.slice,Instr.sliceBounds,Instr.sliceBound,asIntOf,run_underlying (xU ht),hl]
theorem afP{t:Nat}{x hi:Operand}{k2:IntKind}{i2:Int}(s:ByteArray)(h:Nat)(ht:isStr P t=true)(ho:o.op=.slice t x none (some hi) none)(hx:ev σ x=some (.string s)) (h2:ev σ hi=some (.int k2 i2))(e2:i2=(h:Int))(hh:h≤s.size)(w:World):cS P n σ o w (.string (s.extract 0 h)):=by
 intro ac ha;subst e2;simp[execOp,ho,ha.eval hx,ha.eval h2,Instr.sliceAt,Instr.slice,Instr.sliceBounds,Instr.sliceBound,asIntOf,run_underlying (xU ht),hh]
theorem aeD{t t':Nat}{x y:Operand}(a b:ByteArray)(ho:o.op=.binOp .add t x y t')(hx:ev σ x=some (.string a))(hy:ev σ y=some (.string b))(hs:a.size+b.size≤9223372036854775807)(w:World):cS P n σ o w (.string (a++b)):=by
 intro ac ha;simp only[execOp,ho,ha.eval hx,ha.eval hy,Sem.run_bind];simp[eqGuard,binOp,Op.stringOp];omega
theorem toList_extract(s:ByteArray)(l h:Nat):(s.extract l h).data.toList=(s.data.toList.drop l).take (h-l):=by
 rw[ByteArray.data_extract,Array.toList_extract,List.extract_eq_drop_take'];rw[List.drop_take]
theorem aeE(a b:ByteArray):(a++b).data.toList=a.data.toList++b.data.toList:=by
 rw[ByteArray.data_append,Array.toList_append]
theorem adV(s:ByteArray):s.data.toList.length=s.size:=by
 rw[Array.length_toList];rfl
def isIface(P:Program)(t:Nat):Bool:=
 match P.underlying t with
 |some (.interface _)=>true
 |_=>false
theorem Tu{t:Nat}(h:isIface P t=true):∃ms,P.underlying t=some (.interface ms):=by
 unfold isIface at h;split at h
 ·rename_i ms hu;exact⟨ms,hu⟩
 ·cases h
theorem aeF{t:Nat}{ms:Array (String×TypeId)}(hu:P.underlying t=some (.interface ms))(w:World):(Op.equal t .nilIface .nilIface).run P w=.ok true w:=by
 have e:∀d,(Op.equalIn (d+1) t .nilIface .nilIface).run P w=.ok true w:=by
  intro d;simp[Op.equalIn,run_underlying hu]
 exact e 9999
theorem adW{t:Nat}{ms:Array (String×TypeId)}(hu:P.underlying t=some (.interface ms))(tp:TypeId)(v:Value)(w:World):(Op.equal t (.iface tp v) .nilIface).run P w=.ok false w:=by
 have e:∀d,(Op.equalIn (d+1) t (.iface tp v) .nilIface).run P w=.ok false w:=by
  intro d;simp[Op.equalIn,run_underlying hu]
 exact e 9999
theorem FG{t t':Nat}{x:Operand}(h:isIface P t=true)(ho:o.op=.binOp .neq t x (.const .nilIface) t')(hx:ev σ x=some .nilIface)(w:World):cS P n σ o w (.bool false):=by
 intro ac ha;obtain⟨ms,hu⟩:=Tu h;have e:=aeF hu w;have hc:ac.eval (.const .nilIface)=.nilIface:=ha.eval (x:=.const .nilIface) rfl;simp[execOp,ho,ha.eval hx,hc,eqGuard,binOp,e]
theorem FD{t t':Nat}{x:Operand}(tp:TypeId)(v:Value)(h:isIface P t=true)(ho:o.op=.binOp .neq t x (.const .nilIface) t')(hx:ev σ x=some (.iface tp v))(w:World):cS P n σ o w (.bool true):=by
 intro ac ha;obtain⟨ms,hu⟩:=Tu h;have e:=adW hu tp v w;have hc:ac.eval (.const .nilIface)=.nilIface:=ha.eval (x:=.const .nilIface) rfl;simp[execOp,ho,ha.eval hx,hc,eqGuard,binOp,e]
def Px(P:Program)(t:Nat):Bool:=
 match P.underlying t with
 |some (.struct fs)=>match fs.toList with
  |[f,g]=>f.offset==0&&g.offset==1&&(f.name != "_")&&(g.name != "_")&&(match P.underlying f.type with|some (.int _)=>true|_=>false)&&(match P.underlying g.type with|some (.int _)=>true|_=>false)&&!(P.stoodInHeld t)&&!(P.eqGuardType P.depth t)
  |_=>false
 |_=>false
theorem ac4{t:Nat}(h:Px P t=true)(a b x y:Int)(w:World):(Op.equalIn 10000 t (.agg #[.int .i64 a,.int .i64 x]) (.agg #[.int .i64 b,.int .i64 y])).run P w=.ok (a==b&&x==y) w∧P.eqGuardType P.depth t=false:=by
 unfold Px at h;split at h
 ·rename_i fs hu
  split at h
  ·rename_i f g hfs
   simp only[Bool.and_eq_true,beq_iff_eq,bne_iff_ne,Bool.not_eq_true']at h;obtain⟨⟨⟨⟨⟨⟨⟨h1,h2⟩,h3⟩,h4⟩,h5⟩,h6⟩,h7⟩,h8⟩:=h;refine⟨?_,h8⟩;have hf:P.fieldsOf t=fs:=by simp[Program.fieldsOf,hu]
   split at h5
   ·rename_i k0 hs
    split at h6
    ·rename_i k hk
     rw[run_equalIn_struct w 9999 t _ _ (by rw[hf];exact hu) h7,hf,hfs];have e1:=run_equalIn_int (P:=P) w 9998 f.type .i64 k0 a b hs;have e2:=run_equalIn_int (P:=P) w 9998 g.type .i64 k x y hk;have p1:(part f.type #[.int .i64 a,.int .i64 x] 0).run P w=.ok (.int .i64 a) w:=by simp[part,isAgg,run_underlying hs]
     have p2:(part f.type #[.int .i64 b,.int .i64 y] 0).run P w=.ok (.int .i64 b) w:=by simp[part,isAgg,run_underlying hs]
     have p3:(part g.type #[.int .i64 a,.int .i64 x] 1).run P w=.ok (.int .i64 x) w:=by simp[part,isAgg,run_underlying hk]
     have p4:(part g.type #[.int .i64 b,.int .i64 y] 1).run P w=.ok (.int .i64 y) w:=by simp[part,isAgg,run_underlying hk]
     simp only[Op.eqFields,h1,h2,h3,h4,ne_eq,not_false_eq_true,if_true,Sem.run_bind,p1,p2,Result.andThen_ok,e1];generalize(a==b)=p at*;generalize(x==y)=q at*;have e2':(Op.equalIn 9999 g.type (.int .i64 x) (.int .i64 y)).run P w=.ok q w:=e2;cases p<;>cases q<;>simp[p3,p4,e2']
    ·cases h6
   ·cases h5
  ·cases h
 ·cases h
theorem afQ{t t':Nat}{x y:Operand}(a b k l:Int)(r:Bool)(h:Px P t=true)(ho:o.op=.binOp .neq t x y t')(hx:ev σ x=some (.agg #[.int .i64 a,.int .i64 k]))(hy:ev σ y=some (.agg #[.int .i64 b,.int .i64 l])) (hr:(!(a==b&&k==l))=r)(w:World):cS P n σ o w (.bool r):=by
 intro ac ha;subst hr;obtain⟨h1,h2⟩:=ac4 h a b k l w;simp only[execOp,ho,ha.eval hx,ha.eval hy,Sem.run_bind,run_eqGuard_agg w .neq t _ _ _ _ h2,Result.andThen_ok,run_neq_struct,h1];simp
end
def str(l:List UInt8):ByteArray:=⟨l.toArray⟩
theorem rM(l:List UInt8):(str l).data.toList=l:=by simp[str]
theorem F2(s:ByteArray):str s.data.toList=s:=by
 cases s;simp[str]
theorem oF(l:List UInt8):(str l).size=l.length:=by rw[←adV,rM]
theorem YC{s:ByteArray}{l:List UInt8}(h:s.data.toList=l):s=str l:=by rw[←h,F2]
theorem ajm{l:List UInt8}{j:Nat}{c:UInt8}(h:l[j]?=some c):(str l)[j]?=some c:=by
 have hj:=(List.getElem?_eq_some_iff.1 h).1;have hs:j<(str l).size:=by rw[oF];exact hj
 rw[getElem?_pos (str l) j hs];have e:=(List.getElem?_eq_some_iff.1 h).2;rw[←e];rfl
theorem Gb(l:List UInt8)(a b:Nat):(str l).extract a b=str ((l.drop a).take (b-a)):=YC (by rw[toList_extract,rM])
theorem ahu(l:List UInt8)(a:Nat):(str l).extract a (str l).size=str (l.drop a):=by
 rw[Gb,oF];congr 1;rw[List.take_of_length_le (by rw[List.length_drop];exact Nat.le_refl _)]
theorem akP(l:List UInt8)(b:Nat):(str l).extract 0 b=str (l.take b):=by
 rw[Gb];rfl
theorem ajn(a b:List UInt8):str a++str b=str (a++b):=YC (by rw[aeE,rM,rM])
theorem ji(l:List UInt8):(str l).toList=l:=by
 simp[str]
section
variable{P:Program}{n:Nat}{σ:Env}{o:Oper}
theorem p_{t:Nat}{x:Operand}(l:List UInt8)(h:isStr P t=true)(ho:o.op=.call {callee:=.builtin .len,args:=#[x],argTypes:=#[t]})(hx:ev σ x=some (.string (str l)))(w:World):cS P n σ o w (.int .i64 (l.length:Nat)):=by
 have:=zo (n:=n) (str l) h ho hx w
 rwa [oF]at this
theorem wo{t:Nat}{x ix:Operand}{kk:IntKind}(l:List UInt8)(j:Nat)(c:UInt8){i:Int}(h:isStr P t=true)(ho:o.op=.index t x ix)(hx:ev σ x=some (.string (str l)))(hi:ev σ ix=some (.int kk i))
  (q_:i=(j:Int))(hc:l[j]?=some c)(w:World):cS P n σ o w (.int .u8 (c.toNat:Nat)):=Dt (str l) j c h ho hx hi q_ (ajm hc) w
theorem Gc{t:Nat}{x lo hi:Operand}{k1 k2:IntKind}{i1 i2:Int}(l:List UInt8)(a b:Nat)(ht:isStr P t=true)(ho:o.op=.slice t x (some lo) (some hi) none)(hx:ev σ x=some (.string (str l))) (h1:ev σ lo=some (.int k1 i1))(h2:ev σ hi=some (.int k2 i2))(e1:i1=(a:Int))(e2:i2=(b:Int))(hl:a≤b)(hh:b≤l.length)(w:World):cS P n σ o w (.string (str ((l.drop a).take (b-a)))):=by
 have:=aeC (n:=n) (str l) a b ht ho hx h1 h2 e1 e2 hl (by rw[oF];exact hh) w
 rwa [Gb]at this
theorem N5{t:Nat}{x lo:Operand}{k1:IntKind}{i1:Int}(l:List UInt8)(a:Nat)(ht:isStr P t=true)(ho:o.op=.slice t x (some lo) none none)(hx:ev σ x=some (.string (str l))) (h1:ev σ lo=some (.int k1 i1))(e1:i1=(a:Int))(hl:a≤l.length)(w:World):cS P n σ o w (.string (str (l.drop a))):=by
 have:=adU (n:=n) (str l) a ht ho hx h1 e1 (by rw[oF];exact hl) w
 rwa [ahu]at this
theorem O3{t:Nat}{x hi:Operand}{k2:IntKind}{i2:Int}(l:List UInt8)(b:Nat)(ht:isStr P t=true)(ho:o.op=.slice t x none (some hi) none)(hx:ev σ x=some (.string (str l))) (h2:ev σ hi=some (.int k2 i2))(e2:i2=(b:Int))(hh:b≤l.length)(w:World):cS P n σ o w (.string (str (l.take b))):=by
 have:=afP (n:=n) (str l) b ht ho hx h2 e2 (by rw[oF];exact hh) w
 rwa [akP]at this
theorem val_add{t t':Nat}{x y:Operand}(a b:List UInt8)(ho:o.op=.binOp .add t x y t')(hx:ev σ x=some (.string (str a)))(hy:ev σ y=some (.string (str b)))(hs:a.length+b.length≤9223372036854775807)(w:World):cS P n σ o w (.string (str (a++b))):=by
 have:=aeD (P:=P) (n:=n) (str a) (str b) ho hx hy (by rw[oF,oF];exact hs) w
 rwa [ajn]at this
theorem tW{t t':Nat}{x y:Operand}(a b:List UInt8)(r:Bool)(ho:o.op=.binOp .neq t x y t')(hx:ev σ x=some (.string (str a)))(hy:ev σ y=some (.string (str b)))(hr:(!(a==b))=r)(w:World):cS P n σ o w (.bool r):=
 afN (str a) (str b) r ho hx hy (by rw[ji,ji];exact hr) w
variable{f:Nat}{k:List Item}{K Kp:Value→World→Prop}{w:World}
theorem xZ{fn:Func}{t0 t1 ty:Nat}{ad:Addr}{x y:Value}(hf:P.funcs[f]?=some fn)(hr:fn.results=#[.tmp t0,.cell t1 ty])(h0:look σ t0=some x)(h1:look σ t1=some (.pointer (some ad)))(hv:(loadVar ty ad).run P w=.ok y w)
  (hR:K (.tuple #[x,y]) w):Rn P f n (.code .ret::k) (oQ K Kp) σ w:=fun a ha hd=>
 JC hf hd (by simp only[results,hr];simp[ha.has t0 _ h0,ha.has t1 _ h1,asAddr,hv]) hR
end
section
variable{P:Program}{T:fV}{n:Nat}{σ:Env}{o:Oper}{w:World}{v:Value}
theorem aeG{t t':Nat}{x:Operand}(h:zK P t=true)(ho:o.op=.binOp .eql t x (.const (.pointer none)) t')(hx:ev σ x=some (.pointer none))(w:World):cS P n σ o w (.bool true):=by
 intro ac ha;unfold zK at h;split at h
 ·rename_i e hu
  have he:∀d,(Op.equalIn (d+1) t (.pointer none) (.pointer none)).run P w=.ok true w:=fun d=>by
   simp[Op.equalIn,run_underlying hu]
  have tA:(Op.equal t (.pointer none) (.pointer none)).run P w=.ok true w:=he 9999;have hc:ac.eval (.const (.pointer none))=.pointer none:=rfl;simp[execOp,ho,ha.eval hx,hc,eqGuard,binOp,tA]
 ·cases h
def KB(P:Program)(t:Nat):Bool:=
 match P.underlying t with
 |some (.pointer e)=>match P.info? e with
  |some i=>i.size !=0
  |none=>false
 |_=>false
theorem aeH{t t':Nat}{x y:Operand}{ad:Addr}(h:KB P t=true)(ho:o.op=.binOp .neq t x y t')(hx:ev σ x=some (.pointer (some ad)))(hy:ev σ y=some (.pointer (some ad)))(w:World):cS P n σ o w (.bool false):=by
 intro ac ha;unfold KB at h;split at h
 ·rename_i e hu
  split at h
  ·rename_i i hi
   have he:=Lib.run_neq_ptr_same (P:=P) w ad hu hi;simp[execOp,ho,ha.eval hx,ha.eval hy,eqGuard,he]
  ·cases h
 ·cases h
def KC(P:Program)(t:Nat):Bool:=
 match P.underlying t with
 |some .unsafePointer=>true
 |_=>false
theorem Uv{t:Nat}(h:KC P t=true):P.underlying t=some .unsafePointer:=by
 unfold KC at h;split at h
 ·assumption
 ·cases h
theorem adk{s d:Nat}{x:Operand}{b i:Nat}{L:List Value}{e:TypeId}(h:KB P s=true)(hd:KC P d=true)(ho:o.op=.convert s d x)(hx:ev σ x=some (.pointer (some ⟨b,i,none⟩)))(hb:ak w b L e)(hi:i<L.length):cS P n σ o w (.pointer (some ⟨b,i,none⟩)):=by
 intro ac ha;unfold KB at h;split at h
 ·rename_i u hu
  split at h
  ·rename_i j hj
   have bS:j.size≠0:=by simpa using h
   have iT:=hb;unfold ak at iT;have hr:=Lib.run_to_unsafe (P:=P) w ⟨b,i,none⟩ hu (Uv hd) hj bS (e:=e) (cells:=L.length) (by simp[World.shape?,iT]) hi;simp[execOp,ho,ha.eval hx,hr]
  ·cases h
 ·cases h
def O4(P:Program)(d e cells i:Nat):Bool:=
 match P.underlying d with
 |some (.pointer u)=>(match P.info? u with|some _=>true|none=>false)&&liesAt P P.depth e (cells/P.cellsOf e) i u 1
 |_=>false
theorem ac0{s d:Nat}{x:Operand}{b i:Nat}{L:List Value}{e:TypeId}(h:O4 P d e L.length i=true)(hs:KC P s=true)(ho:o.op=.convert s d x)(hx:ev σ x=some (.pointer (some ⟨b,i,none⟩)))(hb:ak w b L e):cS P n σ o w (.pointer (some ⟨b,i,none⟩)):=by
 intro ac ha;unfold O4 at h;split at h
 ·rename_i u hu
  simp only[Bool.and_eq_true]at h;obtain⟨h1,h2⟩:=h;split at h1
  ·rename_i j hj
   have iT:=hb;unfold ak at iT;have hr:=Lib.run_from_unsafe (P:=P) w ⟨b,i,none⟩ (Uv hs) hu hj (e:=e) (cells:=L.length) (by simp[World.shape?,iT]) h2;simp[execOp,ho,ha.eval hx,hr]
  ·cases h1
 ·cases h
theorem adl{c:Call}{x:Operand}{g:Nat}{fn:Func}{v:Value}(ho:o.op=.call c)(hc:c.callee=.value x)(hx:ev σ x=some (.func (.func g) #[] #[]))(hv:tq σ c.args.toList=some [v]) (hf:P.funcs[g]?=some fn)(BH:(fn.name== "runtime.NumGoroutine")=false)(hb:fn.body.isNone=true)(hn:Extern.findNext fn=none)(he:Extern.find fn=some Extern.AbiNoEscape.same)(w:World):cS P n σ o w v:=by
 intro ac ha;have zJ:=AZ (ha.DY hv);have hr:=run_callFunc_extern hf BH hb hn he #[v] w;rw[Lib.run_noEscape]at hr;simp only[Result.andThen]at hr;simp[execOp,ho,resolve,hc,zJ,ha.eval hx,Deferred.ofValue,invoke,hr]
def O5(P:Program)(t e:Nat):Bool:=
 match P.underlying t with
 |some (.slice e')=>e'==e&&(match P.info? e with
  |some i=>i.size==1&&i.bytes==1&&(match i.zero with|some (.int .u8 z)=>z==0|_=>false)
  |none=>false)
 |_=>false
theorem adX{t e:Nat}(h:O5 P t e=true):∃i,P.underlying t=some (.slice e)∧P.info? e=some i∧i.zero=some (.int .u8 0)∧i.size=1∧i.bytes=1:=by
 unfold O5 at h;split at h
 ·rename_i e' hu
  simp only[Bool.and_eq_true,beq_iff_eq]at h;obtain⟨rfl,h⟩:=h;split at h
  ·rename_i i hi
   simp only[Bool.and_eq_true,beq_iff_eq]at h;obtain⟨⟨h1,h2⟩,h3⟩:=h;split at h3
   ·rename_i z hz
    have:z=0:=by simpa using h3
    subst this;exact⟨i,hu,hi,hz,h1,h2⟩
   ·cases h3
  ·cases h
 ·cases h
theorem ac5{t:TypeId}{x:Operand}{ad:Addr}{ln cap:Nat}(ho:o.op=.call {callee:=.builtin .unsafeSliceData,args:=#[x],argTypes:=#[t]})(hx:ev σ x=some (.slice (some ad) ln cap))(hc:cap≠0)(w:World):cS P n σ o w (.pointer (some ad)):=by
 intro ac ha;have hr:=Lib.run_unsafeSliceData_row (P:=P) w #[t] o.type ad ln cap hc;simp[execOp,ho,resolve,invoke,builtin,ha.eval hx,hr]
theorem acV{t:TypeId}{x:Operand}{ln cap:Nat}(ho:o.op=.call {callee:=.builtin .unsafeSliceData,args:=#[x],argTypes:=#[t]})(hx:ev σ x=some (.slice none ln cap))(w:World):cS P n σ o w (.pointer none):=by
 intro ac ha;have hr:=Lib.run_unsafeSliceData_nil (P:=P) w #[t] o.type ln cap;simp[execOp,ho,resolve,invoke,builtin,ha.eval hx,hr]
theorem afR{t u:TypeId}{x y:Operand}{q:Option Addr}(ho:o.op=.call {callee:=.builtin .unsafeString,args:=#[x,y],argTypes:=#[t,u]})(hx:ev σ x=some (.pointer q))(hy:ev σ y=some (.int .i64 0))(w:World):cS P n σ o w (.string (str [])):=by
 intro ac ha;have hr:=Lib.run_unsafeString_none (P:=P) w t u o.type q;simp[execOp,ho,resolve,invoke,builtin,ha.eval hx,ha.eval hy,hr];rfl
def XD(P:Program)(t e:Nat):Bool:=
 match P.underlying t with
 |some (.pointer e')=>e'==e&&P.cellsOf e==1
 |_=>false
theorem afS{t u:TypeId}{x y:Operand}{g e cap ln base:Nat}{K:Value→World→Prop}(l:List UInt8)(ho:o.op=.call {callee:=.builtin .unsafeString,args:=#[x,y],argTypes:=#[t,u]})(hx:ev σ x=some (.pointer (some ⟨g,0,none⟩)))(hy:ev σ y=some (.int .i64 (l.length:Nat))) (hP:XD P t e=true)(h0:l≠[])(bW:w.ownsRow base e 1 (.slice (some ⟨g,0,none⟩) ln cap) l.length (Lib.byteCells l))(hK:K (.string (str l)) (w.freeze ⟨g,0,none⟩ l.length)):iE P n σ o w K:=by
 unfold XD at hP;split at hP
 ·rename_i e' hu
  simp only[Bool.and_eq_true,beq_iff_eq]at hP;obtain⟨rfl,hc⟩:=hP;have vu:l.length≠0:=by simpa using h0
  have O2:=bW.cells (g:=g) rfl;rcases bW.2 with⟨hv,_⟩|⟨g',iF,cur,hv,_,hg,uu,gQ,mA,_⟩
  ·cases hv
  ·cases hv;have hr:=Lib.run_unsafeString_row (P:=P) w t u o.type e' hu hc g cur.size (by simp[World.shape?,hg]) l h0 (by omega) (by unfold maxLen at gQ;omega) (fun j x hx=>O2 j (.int .u8 x.toNat) (by simp[Lib.byteCells,hx]));refine wm (w':=w.freeze ⟨g,0,none⟩ l.length) (v:=.string (str l)) (fun a ha=>?_) hK;simp[execOp,ho,resolve,invoke,builtin,ha.eval hx,ha.eval hy,hr];rfl
 ·cases hP
end
section
variable{P:Program}{n f fuel m:Nat}{ops:Array Oper}{k:List Item}{R:pC}{S:World→Prop}{T:List Nat}{σ:Env}{o:Oper}{w:World}{v:Value}{l:List Oper}{K:Value→World→Prop}
theorem aI(i:Nat)(v:Value){o:Oper}(ho:ops[i]?=some o)(hv:∀w,S w→cS P n σ o w v)(hS:S w)(h:Dr P f n ops k R S T fuel (m|||2^i) (put σ o.dst v) w)(hk:(pj ops m i&&JD ops T i)=true:=by decide+kernel)(hg:guardOf ops σ o.guard=some true:=by exact rfl)(hd:fJ n o.dst=true:=by exact rfl):Dr P f n ops k R S T (fuel+1) m σ w:=Yx i v ho hk hg hd hv hS h
theorem bD(i:Nat)(v:Value){o:Oper}(ho:ops[i]?=some o)(hv:∀w,cS P n σ o w v)(h:Dr P f n ops k R S T fuel (m|||2^i) (put σ o.dst v) w)(hk:pj ops m i=true:=by decide+kernel)(hg:guardOf ops σ o.guard=some true:=by exact rfl)(hd:fJ n o.dst=true:=by exact rfl):Dr P f n ops k R S T (fuel+1) m σ w:=Gq i v ho hk hg hd hv h
theorem a8(i:Nat){o:Oper}(ho:ops[i]?=some o)(h:iE P n σ o w fun v w'=>(i∉T→S w')∧Dr P f n ops k R S T fuel (m|||2^i) (put σ o.dst v) w')(hr:Region.ready .any ops (bits ops.size m)=[i]:=by decide+kernel)(hg:guardOf ops σ o.guard=some true:=by exact rfl)(hd:fJ n o.dst=true:=by exact rfl):Dr P f n ops k R S T (fuel+1) m σ w:=Y5 i ho hr hg hd h
theorem eW(i:Nat){o:Oper}(h:Dr P f n ops k R S T fuel (m|||2^i) (put σ o.dst undef) w)(ho:ops[i]?=some o:=by exact rfl)(hk:pj ops m i=true:=by decide+kernel)(hg:guardOf ops σ o.guard=some false:=by exact rfl)(hd:fJ n o.dst=true:=by exact rfl):Dr P f n ops k R S T (fuel+1) m σ w:=Yy i ho hk hg hd h
theorem bm(h:Rn P f n k R σ w)(hr:Region.ready .any ops (bits ops.size m)=[]:=by decide+kernel):Dr P f n ops k R S T fuel m σ w:=ajh hr h
theorem aV{c:Call}{x:Operand}{g:Nat}{fst vs cap:List Value}(h4:(o.op,c.callee,ev σ x,tq σ c.args.toList)=(.call c,.value x,some (.func (.func g) fst.toArray cap.toArray),some vs))(hK:aC P g (fst++vs++cap) w K)(hg:pd P g=true:=by decide+kernel):iE P n σ o w K:=by
 simp only[Prod.mk.injEq]at h4;exact rK h4.1 h4.2.1 h4.2.2.1 h4.2.2.2 hg hK
theorem aj(h:iE P n σ o w fun v w'=>Pl P f n ops k R l (put σ o.dst v) w')(hg:guardOf ops σ o.guard=some true:=by exact rfl)(hd:fJ n o.dst=true:=by exact rfl):Pl P f n ops k R (o::l) σ w:=Pn hg hd h
theorem ai(v:Value)(hv:cS P n σ o w v)(h:Pl P f n ops k R l (put σ o.dst v) w)(hg:guardOf ops σ o.guard=some true:=by exact rfl)(hd:fJ n o.dst=true:=by exact rfl):Pl P f n ops k R (o::l) σ w:=zC v hg hd hv h
theorem bP{op:BinOp}{t t':TypeId}{x y:Operand}(k:IntKind)(a b:Int)(r:Value)(h3:(o.op,ev σ x,ev σ y)=(.binOp op t x y t',some (.int k a),some (.int k b)))(hr:bU op k a b=some r)(w:World):cS P n σ o w r:=by
 simp only[Prod.mk.injEq]at h3;exact Bi k a b r h3.1 h3.2.1 h3.2.2 hr w
theorem aH{t:TypeId}{x y:Operand}{b i:Nat}{L:List Value}{e:TypeId}(cs:List Value)(h4:(o.op,ev σ x,ev σ y,v.cells)=(.store t x y,some (.pointer (some ⟨b,i,none⟩)),some v,cs.toArray))(hz:dH P t cs.length=true)(hb:ak w b L e)(hl:i+cs.length≤L.length)(h1:∀u∈cs,u.oneCell'=true) (hK:∀w1,w1.heap.size=w.heap.size→ae [b] w w1→ak w1 b (b_ L i cs) e→K undef w1):iE P n σ o w K:=by
 simp only[Prod.mk.injEq]at h4;exact xS cs h4.1 h4.2.1 h4.2.2.1 h4.2.2.2 hz hb hl h1 hK
theorem bY{t:TypeId}{x:Operand}(cs:List Value)(h3:(o.op,ev σ x,v.cells)=(.box t x,some v,cs.toArray)) (hK:∀w1 b,b=w.heap.size→w1.heap.size=b+1→ae [] w w1→ak w1 b cs t→K (.pointer (some ⟨b,0,none⟩)) w1):iE P n σ o w K:=by
 simp only[Prod.mk.injEq]at h3;exact Vi cs h3.1 h3.2.1 h3.2.2 hK
theorem aG{fn:Func}{c:Code}{args:List Value}(n:Nat)(hf:P.funcs[f]?=some fn)(h:Rn P f n [.code c] (ZI K) (wD args 0) w)(hb:fn.body=some c:=by exact rfl)(hn:fn.ntmps=n:=by exact rfl)(hl:args.length≤n:=by simp):aC P f args w K:=akF n hf hb hn hl h
theorem mO{fn:Func}{c:Code}{args:List Value}{Kp:Value→World→Prop}(n:Nat)(hf:P.funcs[f]?=some fn)(h:Rn P f n [.code c] (oQ K Kp) (wD args 0) w)(hb:fn.body=some c:=by exact rfl)(hn:fn.ntmps=n:=by exact rfl)(hl:args.length≤n:=by simp):End P f args w K Kp:=Yw n hf hb hn hl h
theorem ay{fn:Func}{Kp:Value→World→Prop}{t:Nat}(hf:P.funcs[f]?=some fn)(h2:(fn.results,look σ t)=(#[.tmp t],some v))(hR:K v w):Rn P f n (.code .ret::k) (oQ K Kp) σ w:=by
 simp only[Prod.mk.injEq]at h2;exact df hf (.inl ⟨t,h2.1,h2.2⟩) hR
theorem nH{fn:Func}{Kp:Value→World→Prop}{t u:Nat}{x y:Value}(hf:P.funcs[f]?=some fn)(h2:(fn.results,look σ t,look σ u,v)=(#[.tmp t,.tmp u],some x,some y,.tuple #[x,y]))(hR:K v w):Rn P f n (.code .ret::k) (oQ K Kp) σ w:=by
 simp only[Prod.mk.injEq]at h2;exact df hf (.inr (.inr (.inr (.inr ⟨t,u,x,y,h2.1,h2.2.1,h2.2.2.1,h2.2.2.2⟩)))) hR
theorem bK{fn:Func}{Kp:Value→World→Prop}(hf:P.funcs[f]?=some fn)(h2:(fn.results,v)=(#[],.tuple #[]))(hR:K v w):Rn P f n [] (oQ K Kp) σ w:=by
 simp only[Prod.mk.injEq]at h2;exact akG hf (.inr (.inl h2)) hR
end
end E
end Go.Proofs.YtoigoojdbpbhoagGreatDoor
