/- Texts Eng Ops Mem Ints Ops2 StrOps Own Ops3 StepB StrB StrC Bld. -/
import Derived.Orders
import Derived.Tactics
import Derived.Deep.AppendLies
import Derived.Deep.MidRow
import Derived.KernelRfl
import Derived.Recover
import Derived.Laws.Tables
import Derived.Laws.Entries
import Derived.Below
import Derived.ChangeKeysEq
import Derived.Laws.CopyRow
import Derived.Laws.StructEq
import Derived.Laws.MakeOwn
import Derived.Laws.Strings
import Derived.Lib.Builder
import Derived.Lib.AppendStr
import Derived.Lib.UnsafeStr
import Derived.Laws.Externs
namespace Go.Proofs.YtoigoojdbpbhoagGreatDoor
set_option maxRecDepth 20000
set_option maxHeartbeats 4000000
namespace E
section
abbrev Env := List (Nat × Value)
def look : Env → Nat → Option Value
 | [], _ => none
 | (s, v) :: r, t => match Nat.beq s t with
  | true => some v
  | false => look r t
def ev (σ : Env) : Operand → Option Value
 | .tmp t => look σ t
 | .const v => some v
 | .global g => some (.pointer (some ⟨g, 0, none⟩))
 | .func f => some (.func (.func f) #[] #[])
def evs (σ : Env) : List Operand → Option (List Value)
 | [] => some []
 | x :: r => match ev σ x with
  | none => none
  | some v => match evs σ r with
   | none => none
   | some vs => some (v :: vs)
structure Fr (n : Nat) (σ : Env) (a : Act) : Prop where
 size : a.tmps.size = n
 has : ∀ t v, look σ t = some v → a.tmps[t]? = some v
def put (σ : Env) (d : Option Tmp) (v : Value) : Env :=
 match d with
 | some d => (d, v) :: σ
 | none => σ
def dstOk (n : Nat) (d : Option Tmp) : Bool :=
 match d with
 | some d => Nat.blt d n
 | none => true
theorem look_cons (p : Nat × Value) (r : Env) (t : Nat) : look (p :: r) t = if p.1 = t then some p.2 else look r t := by
 obtain ⟨s, v⟩ := p
 by_cases h : s = t
 ·subst h
  simp [look]
 ·have hb : Nat.beq s t = false := by
   cases hb : Nat.beq s t with
   | false => rfl
   | true => exact absurd (Nat.eq_of_beq_eq_true hb) h
  simp [look, hb, h]
theorem Fr.put {n : Nat} {σ : Env} {a : Act} (h : Fr n σ a) (d : Option Tmp) (v : Value) (hd : dstOk n d = true) : Fr n (E.put σ d v) (a.put d v) := by
 cases d with
 | none => exact h
 | some d =>
  have hlt : d < n := by simpa [dstOk, Nat.blt_eq] using hd
  refine ⟨by simpa [Act.put] using h.size, fun t u hu => ?_⟩
  simp only [E.put, look_cons] at hu
  by_cases e : d = t
  ·subst e
   rw [if_pos rfl] at hu
   cases hu
   simp [Act.put, h.size, hlt]
  ·rw [if_neg e] at hu
   simp only [Act.put]
   rw [Array.getElem?_setIfInBounds_ne e]
   exact h.has t u hu
theorem Fr.eval {n : Nat} {σ : Env} {a : Act} (h : Fr n σ a) {x : Operand} {v : Value} (hx : ev σ x = some v) : a.eval x = v := by
 cases x with
 | tmp t =>
  have := h.has t v hx
  simp [Act.eval, this]
 | const u => simpa [ev, Act.eval] using hx
 | global g => simpa [ev, Act.eval] using hx
 | func f => simpa [ev, Act.eval] using hx
theorem Fr.evals {n : Nat} {σ : Env} {a : Act} (h : Fr n σ a) : ∀ {xs : List Operand} {vs : List Value}, evs σ xs = some vs → xs.map a.eval = vs
 | [], vs, hv => by simp [evs] at hv; subst hv; rfl
 | x :: r, vs, hv => by
  simp only [evs] at hv
  cases hx : ev σ x with
  | none => simp [hx] at hv
  | some v =>
   cases hr : evs σ r with
   | none => simp [hx, hr] at hv
   | some us =>
    simp only [hx, hr, Option.some.injEq] at hv
    subst hv
    simp [h.eval hx, h.evals hr]
def Sub : Env → Env → Prop
 | [], _ => True
 | p :: r, σ => look σ p.1 = some p.2 ∧ Sub r σ
theorem Sub.look {σ : Env} : ∀ {σ' : Env}, Sub σ' σ → ∀ t v, E.look σ' t = some v → E.look σ t = some v
 | [], _, t, v, h => by simp [E.look] at h
 | p :: r, hs, t, v, h => by
  rw [look_cons] at h
  by_cases e : p.1 = t
  ·rw [if_pos e] at h
   cases h
   rw [← e]; exact hs.1
  ·rw [if_neg e] at h
   exact Sub.look hs.2 t v h
theorem Fr.sub {n : Nat} {σ σ' : Env} {a : Act} (h : Fr n σ a) (hs : Sub σ' σ) : Fr n σ' a := ⟨h.size, fun t v hv => h.has t v (hs.look t v hv)⟩
structure Post where
 kind : CallKind
 defers : List Deferred
 out : Ending → World → Prop
def pan (v : Value) : List PanicEntry := [{ v := v, recovered := false }]
def endR (K Kp : Value → World → Prop) : Post := ⟨.normal, [], fun e w => (∃ v, e = .returned v ∧ K v w) ∨ ∃ v, e = .panicked (pan v) ∧ Kp v w⟩
abbrev retR (K : Value → World → Prop) : Post := endR K fun _ _ => False
theorem put_defers (a : Act) (d : Option Tmp) (v : Value) : (a.put d v).defers = a.defers := by cases d <;> rfl
def KOk (k : CallKind) (fr : Frame) : Ending → Prop
 | .returned _ => fr.kind = k
 | _ => fr.kind = k ∨ k = .normal
def Runs (P : Program) (f : FuncId) (todo : List Item) (R : Post) (a : Act) (w : World) : Prop :=
 ∀ (b : Frame) (cs : List Frame), b.fn = f → b.kind = R.kind →
  ∃ e w' fr, R.out e w' ∧ Comes P (lone (b.at a todo) cs w) (lone fr cs w') e ∧ fr.fn = f ∧ KOk R.kind fr e ∧ fr.going P w' e
def Rn (P : Program) (f n : Nat) (todo : List Item) (R : Post) (σ : Env) (w : World) : Prop := ∀ a, Fr n σ a → a.defers = R.defers → Runs P f todo R a w
def Ret (P : Program) (f : FuncId) (args : List Value) (w : World) (R : Value → World → Prop) : Prop :=
 Calls P f args.toArray w fun e w' => ∃ v, e = .returned v ∧ R v w'
theorem Ret.mono {P : Program} {f : FuncId} {args : List Value} {w : World} {R R' : Value → World → Prop} (h : Ret P f args w R) (hr : ∀ v w', R v w' → R' v w') : Ret P f args w R' :=
 Calls.mono h fun _ _ ⟨v, he, hR⟩ => ⟨v, he, hr _ _ hR⟩
def End (P : Program) (f : FuncId) (args : List Value) (w : World) (K Kp : Value → World → Prop) : Prop := Calls P f args.toArray w (endR K Kp).out
theorem End.mono {P : Program} {f : FuncId} {args : List Value} {w : World} {K Kp K' Kp' : Value → World → Prop} (h : End P f args w K Kp) (hr : ∀ v w', K v w' → K' v w') (hp : ∀ v w', Kp v w' → Kp' v w') : End P f args w K' Kp' :=
 Calls.mono h fun _ _ h => h.elim (fun ⟨v, he, hR⟩ => .inl ⟨v, he, hr _ _ hR⟩) fun ⟨v, he, hR⟩ => .inr ⟨v, he, hp _ _ hR⟩
theorem End.ret {P : Program} {f : FuncId} {args : List Value} {w : World} {K : Value → World → Prop} (h : End P f args w K fun _ _ => False) : Ret P f args w K :=
 Calls.mono h fun _ _ h => h.elim id fun ⟨_, _, hR⟩ => hR.elim
def envOf : List Value → Nat → Env
 | [], _ => []
 | v :: r, i => (i, v) :: envOf r (i + 1)
theorem look_envOf : ∀ (l : List Value) (i t : Nat) (v : Value), look (envOf l i) t = some v → i ≤ t ∧ l[t - i]? = some v
 | [], _, _, _, h => by simp [envOf, look] at h
 | u :: r, i, t, v, h => by
  simp only [envOf, look_cons] at h
  by_cases e : i = t
  ·subst e; simp at h; subst h; simp
  ·rw [if_neg e] at h
   have := look_envOf r (i + 1) t v h
   refine ⟨by omega, ?_⟩
   have e2 : t - i = (t - (i + 1)) + 1 := by omega
   rw [e2, List.getElem?_cons_succ]; exact this.2
theorem Frame.leaving_of {P : Program} {fr : Frame} {w : World} {e : Ending} (hk : KOk .normal fr e) (h : fr.going P w e) : fr.leaving P w e := by
 cases e with
 | returned v => exact ⟨h.1, h.2.1, hk, h.2.2⟩
 | panicked chain => exact h
 | outgrown => trivial
theorem calls_of {P : Program} {f : FuncId} {fn : Func} {c : Code} {args : List Value} {w : World} {R : Post} (n : Nat)
  (hf : P.funcs[f]? = some fn) (hb : fn.body = some c) (hn : fn.ntmps = n) (hl : args.length ≤ n) (hk : R.kind = .normal) (hd : R.defers = [])
  (h : Rn P f n [.code c] R (envOf args 0) w) : Calls P f args.toArray w R.out := by
 intro cs
 let b : Frame := { (default : Frame) with fn := f, kind := .normal }
 have henter : Frame.enter P f args.toArray .normal =
   b.at { tmps := args.toArray ++ Array.replicate (fn.ntmps - args.toArray.size) undef, defers := [] } [.code c] := by
  simp [Frame.enter, Frame.at, hf, hb, b]
 obtain ⟨e, w', fr, hR, hs, hfn, hk', hl'⟩ := h { tmps := args.toArray ++ Array.replicate (fn.ntmps - args.toArray.size) undef, defers := [] }
  ⟨by simp [hn]; omega, fun t v hv => by
   have := (look_envOf args 0 t v hv).2
   simp only [Nat.sub_zero] at this
   have hlt : t < args.length := (List.getElem?_eq_some_iff.1 this).1
   rw [Array.getElem?_append_left (by simpa using hlt)]
   simpa using this⟩ hd.symm b cs rfl hk.symm
 rw [← henter] at hs
 exact ⟨e, w', fr, hR, hs, hfn, Frame.leaving_of (hk ▸ hk') hl'⟩
theorem end_of {P : Program} {f : FuncId} {fn : Func} {c : Code} {args : List Value} {w : World} {K Kp : Value → World → Prop} (n : Nat)
  (hf : P.funcs[f]? = some fn) (hb : fn.body = some c) (hn : fn.ntmps = n) (hl : args.length ≤ n)
  (h : Rn P f n [.code c] (endR K Kp) (envOf args 0) w) : End P f args w K Kp := calls_of n hf hb hn hl rfl rfl h
theorem ret_of {P : Program} {f : FuncId} {fn : Func} {c : Code} {args : List Value} {w : World} {R : Value → World → Prop} (n : Nat)
  (hf : P.funcs[f]? = some fn) (hb : fn.body = some c) (hn : fn.ntmps = n) (hl : args.length ≤ n)
  (h : Rn P f n [.code c] (retR R) (envOf args 0) w) : Ret P f args w R := (end_of n hf hb hn hl h).ret
section
variable {P : Program} {f n : Nat} {k : List Item} {R : Post} {σ : Env} {w : World}
theorem Runs.step {a : Act} {todo todo' : List Item} (hs : ∀ (b : Frame) cs, step P (lone (b.at a todo) cs w) = .next (lone (b.at a todo') cs w)) (h : Runs P f todo' R a w) : Runs P f todo R a w :=
 fun b cs hb hk => let ⟨e, w', fr, hR, hst, r⟩ := h b cs hb hk; ⟨e, w', fr, hR, Comes.of_steps (.one (hs b cs)) hst, r⟩
theorem rn_seq {x y : Code} (h : Rn P f n (.code x :: .code y :: k) R σ w) : Rn P f n (.code (.seq x y) :: k) R σ w := fun a ha hd => (h a ha hd).step fun _ _ => step_seq
theorem rn_skip (h : Rn P f n k R σ w) : Rn P f n (.code .skip :: k) R σ w := fun a ha hd => (h a ha hd).step fun _ _ => step_skip
theorem rn_block {id : Nat} {c : Code} (h : Rn P f n (.code c :: .inBlock id :: k) R σ w) : Rn P f n (.code (.block id c) :: k) R σ w := fun a ha hd => (h a ha hd).step fun _ _ => step_block
theorem rn_inBlock {id : Nat} (h : Rn P f n k R σ w) : Rn P f n (.inBlock id :: k) R σ w := fun a ha hd => (h a ha hd).step fun _ _ => step_inBlock
theorem rn_exit {id : Nat} {k' : List Item} (hk : exitTo id k = some k') (h : Rn P f n k' R σ w) : Rn P f n (.code (.exit id) :: k) R σ w := fun a ha hd => (h a ha hd).step fun _ _ => step_exit hk
theorem rn_loop {c : Code} (h : Rn P f n (.code c :: .inLoop c :: k) R σ w) : Rn P f n (.code (.loop c) :: k) R σ w := fun a ha hd => (h a ha hd).step fun _ _ => step_loop
theorem rn_inLoop {c : Code} (h : Rn P f n (.code c :: .inLoop c :: k) R σ w) : Rn P f n (.inLoop c :: k) R σ w := fun a ha hd => (h a ha hd).step fun _ _ => step_inLoop
theorem rn_cond {c : Operand} {x y : Code} {t : Bool} (hc : ev σ c = some (.bool t)) (h : Rn P f n (.code (if t then x else y) :: k) R σ w) : Rn P f n (.code (.cond c x y) :: k) R σ w :=
 fun a ha hd => (h a ha hd).step fun _ _ => step_cond (ha.eval hc)
theorem rn_true {c : Operand} {x y : Code} (hc : ev σ c = some (.bool true)) (h : Rn P f n (.code x :: k) R σ w) : Rn P f n (.code (.cond c x y) :: k) R σ w := rn_cond hc h
theorem rn_false {c : Operand} {x y : Code} (hc : ev σ c = some (.bool false)) (h : Rn P f n (.code y :: k) R σ w) : Rn P f n (.code (.cond c x y) :: k) R σ w := rn_cond hc h
theorem rn_sub {todo : List Item} {σ' : Env} (hs : Sub σ' σ) (h : Rn P f n todo R σ' w) : Rn P f n todo R σ w := fun a ha hd => h a (ha.sub hs) hd
theorem rn_with {c : Item} (I : Env → World → Prop) (hcont : ∀ σ' w', I σ' w' → Rn P f n k R σ' w') (hmain : (∀ σ' w', I σ' w' → Rn P f n k R σ' w') → Rn P f n (c :: k) R σ w) : Rn P f n (c :: k) R σ w := hmain hcont
theorem rn_ind {c : Code} (I : Nat → Env → World → Prop) (m : Nat) (σ' : Env) (hs : Sub σ' σ) (h0 : I m σ' w)
  (hstep : ∀ m σ w, (∀ m' σ' w', m' < m → I m' σ' w' → Rn P f n (.inLoop c :: k) R σ' w') → I m σ w → Rn P f n (.code c :: .inLoop c :: k) R σ w) :
  Rn P f n (.code (.loop c) :: k) R σ w := by
 have key : ∀ m σ w, I m σ w → Rn P f n (.code c :: .inLoop c :: k) R σ w := by
  intro m
  induction m using Nat.strongRecOn with
  | _ m ih => exact fun σ w hI => hstep m σ w (fun m' σ' w' hlt hI' => rn_inLoop (ih m' hlt σ' w' hI')) hI
 exact rn_sub hs (rn_loop (key m σ' w h0))
theorem runs_leave {a : Act} {fn : Func} {v : Value} (hf : P.funcs[f]? = some fn) (hd : a.defers = []) (hr : (results fn a.tmps).run P w = .ok v w) (hR : R.out (.returned v) w) : Runs P f (.code .ret :: k) R a w :=
 fun b _ hb hk => ⟨.returned v, w, _, hR, Steps.one step_ret, hb, hk, rfl, hd, fn, by simpa [Frame.at, hb] using hf, hr⟩
theorem runs_leave0 {a : Act} {fn : Func} {v : Value} (hf : P.funcs[f]? = some fn) (hd : a.defers = []) (hr : (results fn a.tmps).run P w = .ok v w) (hR : R.out (.returned v) w) : Runs P f [] R a w :=
 fun b _ hb hk => ⟨.returned v, w, _, hR, Steps.one step_end, hb, hk, rfl, hd, fn, by simpa [Frame.at, hb] using hf, hr⟩
theorem runs_ret {a : Act} {fn : Func} {v : Value} {K Kp : Value → World → Prop} (hf : P.funcs[f]? = some fn) (hd : a.defers = []) (hr : (results fn a.tmps).run P w = .ok v w) (hR : K v w) : Runs P f (.code .ret :: k) (endR K Kp) a w :=
 runs_leave hf hd hr (.inl ⟨v, rfl, hR⟩)
def Res (P : Program) (σ : Env) (w : World) (rs : Array ResultVar) (v : Value) : Prop :=
 (∃ t, rs = #[.tmp t] ∧ look σ t = some v) ∨
 (rs = #[] ∧ v = .tuple #[]) ∨
 (∃ t ty ad, rs = #[.cell t ty] ∧ look σ t = some (.pointer (some ad)) ∧ (loadVar ty ad).run P w = .ok v w) ∨
 (∃ t ty ad u x y, rs = #[.cell t ty, .tmp u] ∧ look σ t = some (.pointer (some ad)) ∧ (loadVar ty ad).run P w = .ok x w ∧ look σ u = some y ∧ v = .tuple #[x, y]) ∨
 (∃ t u x y, rs = #[.tmp t, .tmp u] ∧ look σ t = some x ∧ look σ u = some y ∧ v = .tuple #[x, y])
theorem Res.run {a : Act} {fn : Func} {v : Value} (ha : Fr n σ a) (h : Res P σ w fn.results v) : (results fn a.tmps).run P w = .ok v w := by
 rcases h with ⟨t, hr, hl⟩ | ⟨hr, rfl⟩ | ⟨t, ty, ad, hr, hl, hv⟩ | ⟨t, ty, ad, u, x, y, hr, hl, hx, hu, rfl⟩ | ⟨t, u, x, y, hr, hx, hy, rfl⟩
 ·simp only [results, hr]
  simp [ha.has t v hl]
 ·simp only [results, hr]
  simp
 ·simp only [results, hr]
  simp [ha.has t _ hl, asAddr, hv]
 ·simp only [results, hr]
  simp [ha.has t _ hl, ha.has u _ hu, asAddr, hx]
 ·simp only [results, hr]
  simp [ha.has t _ hx, ha.has u _ hy]
theorem rn_ret {fn : Func} {v : Value} {K Kp : Value → World → Prop} (hf : P.funcs[f]? = some fn) (hr : Res P σ w fn.results v) (hR : K v w) : Rn P f n (.code .ret :: k) (endR K Kp) σ w :=
 fun _ ha hd => runs_leave hf hd (hr.run ha) (.inl ⟨v, rfl, hR⟩)
theorem rn_end {fn : Func} {v : Value} {K Kp : Value → World → Prop} (hf : P.funcs[f]? = some fn) (hr : Res P σ w fn.results v) (hR : K v w) : Rn P f n [] (endR K Kp) σ w :=
 fun _ ha hd => runs_leave0 hf hd (hr.run ha) (.inl ⟨v, rfl, hR⟩)
theorem rn_endX {fn : Func} {v : Value} (hf : P.funcs[f]? = some fn) (hD : R.defers = []) (hr : Res P σ w fn.results v) (hR : R.out (.returned v) w) : Rn P f n [] R σ w :=
 fun _ ha hd => runs_leave0 hf (hd.trans hD) (hr.run ha) hR
theorem Frame.going_of {P : Program} {fr : Frame} {w : World} {e : Ending} (h : fr.leaving P w e) : fr.going P w e := by
 cases e with
 | returned v => exact ⟨h.1, h.2.1, h.2.2.2⟩
 | panicked chain => exact h
 | outgrown => trivial
theorem runs_leaves {a : Act} {fn : Func} (hf : P.funcs[f]? = some fn) (hk : R.kind = .normal) (u : FrameMode) (h : Leaves P fn a.tmps R.out a.defers u w) (fr : Frame) (cs : List Frame) (h1 : fr.fn = f) (h2 : fr.kind = R.kind) (h3 : fr.mode = u) (h4 : fr.defers = a.defers) (h5 : fr.tmps = a.tmps) :
  ∃ e w' fr', R.out e w' ∧ Comes P (lone fr cs w) (lone fr' cs w') e ∧ fr'.fn = f ∧ KOk R.kind fr' e ∧ fr'.going P w' e := by
 obtain ⟨e, w', fr', hR, hs, hfn, hl⟩ := leaves_steps a.defers u w fr cs h3 h4 h5 (by rw [h1]; exact hf) (h2.trans hk) h
 refine ⟨e, w', fr', hR, hs, hfn.trans h1, ?_, Frame.going_of hl⟩
 cases e with
 | returned v => exact hl.2.2.1.trans hk.symm
 | panicked chain => exact .inr hk
 | outgrown => exact .inr hk
theorem rn_retD {fn : Func} (hf : P.funcs[f]? = some fn) (hk : R.kind = .normal) (h : ∀ a, Fr n σ a → Leaves P fn a.tmps R.out R.defers .returning w) : Rn P f n (.code .ret :: k) R σ w := fun a ha hd b cs hb hkb => by
 obtain ⟨e, w', fr, hR, hs, r⟩ := runs_leaves hf hk .returning (hd ▸ h a ha) { b.at a (.code .ret :: k) with mode := .returning } cs hb hkb rfl rfl rfl
 exact ⟨e, w', fr, hR, Comes.of_steps (Steps.one step_ret) hs, r⟩
def Qn (P : Program) (f : Nat) (k : List Item) (R : Post) : Exit → Act → World → Prop := fun e a w =>
 (e = .normal ∧ Runs P f k R a w) ∨ ∃ ch, e = .panic ch ∧ ∃ fn, P.funcs[f]? = some fn ∧ (a.defers = [] ∨ R.kind = .normal) ∧ Leaves P fn a.tmps R.out a.defers (.panicking ch) w
theorem runs_panic {a : Act} {fn : Func} {ch : List PanicEntry} (hf : P.funcs[f]? = some fn) (hk : a.defers = [] ∨ R.kind = .normal) (h : Leaves P fn a.tmps R.out a.defers (.panicking ch) w) (fr : Frame) (cs : List Frame) (h1 : fr.fn = f) (h2 : fr.kind = R.kind) (h3 : fr.mode = .panicking ch) (h4 : fr.defers = a.defers) (h5 : fr.tmps = a.tmps) :
  ∃ e w' fr', R.out e w' ∧ Comes P (lone fr cs w) (lone fr' cs w') e ∧ fr'.fn = f ∧ KOk R.kind fr' e ∧ fr'.going P w' e := by
 rcases hk with hd | hk
 ·rw [hd] at h
  exact ⟨.panicked ch, w, fr, h, Steps.refl P _, h1, .inl h2, h3, h4.trans hd, fn, by rw [h1]; exact hf⟩
 ·exact runs_leaves hf hk _ h fr cs h1 h2 h3 h4 h5
theorem runs_arrives {a' : Act} {e : Exit} {w' : World} {b : Frame} {cs : List Frame} {m : Machine} (hq : Qn P f k R e a' w') (harr : Arrives P m b k cs e a' w') (hb : b.fn = f) (hk : b.kind = R.kind) :
  ∃ e w' fr, R.out e w' ∧ Comes P m (lone fr cs w') e ∧ fr.fn = f ∧ KOk R.kind fr e ∧ fr.going P w' e := by
 rcases hq with ⟨rfl, hr⟩ | ⟨ch, rfl, fn, hf, hk', hl⟩
 ·obtain ⟨e, w'', fr, hR, hs, r⟩ := hr b cs hb hk
  exact ⟨e, w'', fr, hR, Comes.of_steps harr hs, r⟩
 ·obtain ⟨todo, hs⟩ := harr
  obtain ⟨e, w'', fr, hR, hs', r⟩ := runs_panic hf hk' hl { b.at a' todo with mode := .panicking ch } cs hb hk rfl rfl rfl
  exact ⟨e, w'', fr, hR, Comes.of_steps hs hs', r⟩
theorem runs_region {id : Nat} {ops : Array Oper} {d : Bool} {a : Act} (h : (Code.region id ops d).wp P (Qn P f k R) a w) : Runs P f (.code (.region id ops d) :: k) R a w := by
 intro b cs hb hk
 obtain ⟨e, a', w', hq, harr⟩ := h b k cs
 exact runs_arrives hq harr hb hk
def guardOf (ops : Array Oper) (σ : Env) (g : Option (Nat × Bool)) : Option Bool :=
 match g with
 | none => some true
 | some (j, want) => match (ops[j]?).bind (·.dst) with
  | none => none
  | some t => match look σ t with
   | some (.bool b) => some (b == want)
   | some (.tuple _) => some false
   | _ => none
theorem guardOf_spec {ops : Array Oper} {a : Act} {o : Oper} {b : Bool} (ha : Fr n σ a) (h : guardOf ops σ o.guard = some b) : Region.wanted o (yielded ops a.tmps) = b := by
 unfold Region.wanted
 unfold guardOf at h
 split at h
 ·rename_i hg; rw [hg]; simpa using h
 ·rename_i j want hg
  rw [hg]
  split at h
  ·cases h
  ·rename_i t ht
   simp only [yielded, ht, Option.bind_some]
   split at h
   ·rename_i b' hb'
    rw [ha.has t _ hb']
    simpa using h
   ·rename_i vs hb'
    rw [ha.has t _ hb']
    simpa using h
   ·cases h
def OpTo (P : Program) (n : Nat) (σ : Env) (o : Oper) (w : World) (K : Value → World → Prop) : Prop :=
 ∀ a, Fr n σ a → ∀ (next : Act → World → Prop) (Q : Exit → Act → World → Prop), (∀ v w', K v w' → next (a.put o.dst v) w') → o.wp P a w next Q
def Val (P : Program) (n : Nat) (σ : Env) (o : Oper) (w : World) (v : Value) : Prop := ∀ a, Fr n σ a → (execOp a.eval o).run P w = .ok (.value v) w
theorem Val.opTo {o : Oper} {v : Value} {K : Value → World → Prop} (h : Val P n σ o w v) (hK : K v w) : OpTo P n σ o w K := fun a ha next Q hn => by
 simp only [Oper.wp, h a ha, Oper.upon]
 exact hn v w hK
theorem opTo_run {o : Oper} {v : Value} {w' : World} {K : Value → World → Prop} (h : ∀ a, Fr n σ a → (execOp a.eval o).run P w = .ok (.value v) w') (hK : K v w') : OpTo P n σ o w K := fun a ha next Q hn => by
 simp only [Oper.wp, h a ha, Oper.upon]
 exact hn v w' hK
theorem opTo_skip {o : Oper} {w' : World} {K : Value → World → Prop} (h : ∀ a, Fr n σ a → (execOp a.eval o).run P w = .ok .skip w') (hK : K undef w') : OpTo P n σ o w K := fun a ha next Q hn => by
 simp only [Oper.wp, h a ha, Oper.upon]
 exact hn undef w' hK
def OpE (P : Program) (n : Nat) (σ : Env) (o : Oper) (w : World) (K Kp : Value → World → Prop) : Prop :=
 ∀ a, Fr n σ a → ∀ (next : Act → World → Prop) (Q : Exit → Act → World → Prop), (∀ v w', K v w' → next (a.put o.dst v) w') → (∀ v w', Kp v w' → Q (.panic (pan v)) a w') → o.wp P a w next Q
theorem opE_panic {o : Oper} {v : Value} {w' : World} {K Kp : Value → World → Prop} (h : ∀ a, Fr n σ a → (execOp a.eval o).run P w = .halt (.panic v) w') (hK : Kp v w') : OpE P n σ o w K Kp := fun a ha next Q _ hp => by
 simp only [Oper.wp, h a ha, Oper.upon]
 exact hp v w' hK
def Pl (P : Program) (f n : Nat) (ops : Array Oper) (k : List Item) (R : Post) (l : List Oper) (σ : Env) (w : World) : Prop := ∀ a, Fr n σ a → a.defers = R.defers → wpList P ops (Qn P f k R) l a w
theorem rn_plain {id : Nat} {l : List Oper} (h : Pl P f n l.toArray k R l σ w) : Rn P f n (.code (.region id l.toArray false) :: k) R σ w :=
 fun a ha hd => runs_region (wp_region_lit (h a ha hd))
theorem pl_nil {ops : Array Oper} (h : Rn P f n k R σ w) : Pl P f n ops k R [] σ w := fun a ha hd => .inl ⟨rfl, h a ha hd⟩
theorem pl_op {ops : Array Oper} {o : Oper} {l : List Oper} (hg : guardOf ops σ o.guard = some true) (hd : dstOk n o.dst = true)
  (h : OpTo P n σ o w fun v w' => Pl P f n ops k R l (put σ o.dst v) w') : Pl P f n ops k R (o :: l) σ w := fun a ha hdf => by
 unfold wpList
 rw [if_pos (guardOf_spec ha hg)]
 exact .inl (h a ha _ _ fun v w' hv => hv _ (ha.put _ v hd) ((put_defers _ _ _).trans hdf))
theorem pl_val {ops : Array Oper} {o : Oper} {l : List Oper} (v : Value) (hg : guardOf ops σ o.guard = some true) (hd : dstOk n o.dst = true)
  (hv : Val P n σ o w v) (h : Pl P f n ops k R l (put σ o.dst v) w) : Pl P f n ops k R (o :: l) σ w := pl_op hg hd (hv.opTo h)
theorem pl_not {ops : Array Oper} {o : Oper} {l : List Oper} (hg : guardOf ops σ o.guard = some false) (hd : dstOk n o.dst = true)
  (h : Pl P f n ops k R l (put σ o.dst undef) w) : Pl P f n ops k R (o :: l) σ w := fun a ha hdf => by
 unfold wpList
 rw [if_neg (by rw [guardOf_spec ha hg]; simp)]
 exact h _ (ha.put _ _ hd) ((put_defers _ _ _).trans hdf)
theorem pl_opE {ops : Array Oper} {o : Oper} {l : List Oper} {fn : Func} {K Kp : Value → World → Prop} (hf : P.funcs[f]? = some fn) (hg : guardOf ops σ o.guard = some true) (hd : dstOk n o.dst = true)
  (h : OpE P n σ o w (fun v w' => Pl P f n ops k (endR K Kp) l (put σ o.dst v) w') Kp) : Pl P f n ops k (endR K Kp) (o :: l) σ w := fun a ha hdf => by
 unfold wpList
 rw [if_pos (guardOf_spec ha hg)]
 refine .inl (h a ha _ _ (fun v w' hv => hv _ (ha.put _ v hd) ((put_defers _ _ _).trans hdf)) fun v w' hv => .inr ⟨_, rfl, fn, hf, .inl hdf, ?_⟩)
 rw [hdf]
 exact .inr ⟨v, rfl, hv⟩
theorem pl_opD {ops : Array Oper} {o : Oper} {l : List Oper} {fn : Func} (hf : P.funcs[f]? = some fn) (hk : R.kind = .normal) (hg : guardOf ops σ o.guard = some true) (hd : dstOk n o.dst = true)
  (h : OpE P n σ o w (fun v w' => Pl P f n ops k R l (put σ o.dst v) w') (fun v w' => ∀ a, Fr n σ a → Leaves P fn a.tmps R.out R.defers (.panicking (pan v)) w')) : Pl P f n ops k R (o :: l) σ w := fun a ha hdf => by
 unfold wpList
 rw [if_pos (guardOf_spec ha hg)]
 refine .inl (h a ha _ _ (fun v w' hv => hv _ (ha.put _ v hd) ((put_defers _ _ _).trans hdf)) fun v w' hv => .inr ⟨_, rfl, fn, hf, .inr hk, ?_⟩)
 rw [hdf]
 exact hv a ha
theorem pl_defer {ops : Array Oper} {o : Oper} {l : List Oper} {d : Deferred} (hg : guardOf ops σ o.guard = some true) (hd : dstOk n o.dst = true) (hrun : ∀ a, Fr n σ a → (execOp a.eval o).run P w = .ok (.defer d) w)
  (h : Pl P f n ops k ⟨R.kind, d :: R.defers, R.out⟩ l (put σ o.dst undef) w) : Pl P f n ops k R (o :: l) σ w := fun a ha hdf => by
 unfold wpList
 rw [if_pos (guardOf_spec ha hg)]
 refine .inl ?_
 simp only [Oper.wp, hrun a ha, Oper.upon]
 have ha' : Fr n σ { a with defers := d :: a.defers } := ⟨ha.size, ha.has⟩
 exact h _ (ha'.put _ undef hd) (by rw [put_defers, hdf])
end
section
variable {P : Program} {ops : Array Oper} {Q : Exit → Act → World → Prop} {S : World → Prop} {T : List Nat}
def anyX (P : Program) (ops : Array Oper) (Q : Exit → Act → World → Prop) (S : World → Prop) (T : List Nat) : Nat → Array Bool → Act → World → Prop
 | 0, listed, a, w => Region.ready .any ops listed = [] ∧ Q .normal a w
 | fuel + 1, listed, a, w =>
  (Region.ready .any ops listed = [] → Q .normal a w) ∧
  ∀ i ∈ Region.ready .any ops listed, wpOp P ops Q i (fun a' w' => (i ∉ T → S w → S w') ∧ anyX P ops Q S T fuel (listed.setIfInBounds i true) a' w') a w
theorem anyX_any : ∀ (fuel : Nat) (listed : Array Bool) (a : Act) (w : World), anyX P ops Q S T fuel listed a w → wpAny P .any ops Q fuel listed a w
 | 0, _, _, _, h => h
 | fuel + 1, _, _, _, h => ⟨h.1, fun i hi => wpOp_mono (fun a' w' h' => anyX_any fuel _ a' w' h'.2) (h.2 i hi)⟩
def Closed (ops : Array Oper) (listed : Array Bool) : Prop :=
 ∀ j o, ops[j]? = some o → listed.getD j false = true → ∀ e ∈ o.after, Region.binds .any e = true → listed.getD e.on false = true
theorem Closed.set {listed : Array Bool} (h : Closed ops listed) {i : Nat} (hi : i ∈ Region.ready .any ops listed) : Closed ops (listed.setIfInBounds i true) := by
 intro j o ho hj e he hb
 obtain ⟨_, oi, hoi, hall⟩ := mem_ready.1 hi
 refine getD_set_true ?_
 by_cases hji : i = j
 ·subst hji
  rw [hoi] at ho
  cases ho
  exact hall e he hb
 ·rw [getD_set_ne false hji] at hj
  exact h j o ho hj e he hb
def reach (ops : Array Oper) (i : Nat) : Nat → Nat → Bool
 | 0, _ => false
 | fuel + 1, t => match ops[t]? with
  | some o => o.after.any fun e => Region.binds .any e && (e.on == i || reach ops i fuel e.on)
  | none => false
theorem reach_spec {listed : Array Bool} {i : Nat} (hc : Closed ops listed) : ∀ (fuel t : Nat) (o : Oper), ops[t]? = some o → (∀ e ∈ o.after, Region.binds .any e = true → listed.getD e.on false = true) → reach ops i fuel t = true → listed.getD i false = true
 | 0, _, _, _, _, h => by simp [reach] at h
 | fuel + 1, t, o, ho, hall, h => by
  unfold reach at h
  simp only [ho] at h
  obtain ⟨e, he, hb⟩ := Array.any_eq_true'.1 h
  simp only [Bool.and_eq_true, Bool.or_eq_true, beq_iff_eq] at hb
  have hl := hall e he hb.1
  rcases hb.2 with h1 | h1
  ·rw [← h1]; exact hl
  ·cases hoe : ops[e.on]? with
   | none =>
    cases fuel with
    | zero => simp [reach] at h1
    | succ fuel => simp [reach, hoe] at h1
   | some oe => exact reach_spec hc fuel e.on oe hoe (hc e.on oe hoe hl) h1
theorem anyX_first {D : World → Prop} {i : Nat} {oi : Oper} {v : Value} (hi : ops[i]? = some oi) (hsel : ∀ (j : Nat) (o : Oper) cs b, ops[j]? = some o → o.op ≠ .select cs b)
  (hQ : ∀ c a w, Q (.panic c) (a.put oi.dst v) w → Q (.panic c) a w)
  (hDj : ∀ (listed : Array Bool) j, Closed ops listed → listed.getD i false = false → j ∈ Region.ready .any ops listed → ∀ w w', D w → (j ∉ T → S w → S w') → D w') :
  ∀ (fuel : Nat) (listed : Array Bool) (a : Act) (w : World), Closed ops listed →
   (∀ j oj, ops[j]? = some oj → j ≠ i → listed.getD j true = false → (∀ e ∈ oj.after, Region.binds .any e = true → e.on ≠ i) → oi.apart ops oj = true) →
   i ∈ Region.ready .any ops listed → YieldsIf P ops D oi v a → D w →
   anyX P ops Q S T fuel (listed.setIfInBounds i true) (a.put oi.dst v) w → anyX P ops Q S T (fuel + 1) listed a w := by
 intro fuel
 induction fuel with
 | zero =>
  intro listed a w _ _ hr hy hD H
  refine ⟨fun h => (by rw [h] at hr; cases hr), fun j hj => ?_⟩
  by_cases hji : j = i
  ·subst hji; exact hy.wpOp hi hD ⟨fun _ hS => hS, H⟩
  ·have := ready_mono hj hji
   rw [H.1] at this
   cases this
 | succ fuel ih =>
  intro listed a w hcl hfree hr hy hD H
  refine ⟨fun h => (by rw [h] at hr; cases hr), fun j hj => ?_⟩
  by_cases hji : j = i
  ·subst hji; exact hy.wpOp hi hD ⟨fun _ hS => hS, H⟩
  ·have h1 := H.2 j (ready_mono hj hji)
   obtain ⟨hjun, oj, hoj, hall⟩ := mem_ready.1 hj
   have hnot : ∀ e ∈ oj.after, Region.binds .any e = true → e.on ≠ i := fun e he hb heq => by
    have h1 := hall e he hb
    have h0 := (mem_ready.1 hr).1
    rw [heq] at h1
    rcases Nat.lt_or_ge i listed.size with h' | h'
    ·simp [h'] at h0 h1; rw [h0] at h1; cases h1
    ·simp [Array.getElem?_eq_none h'] at h1
   have hfj := hfree j oj hoj hji hjun hnot
   have hil : listed.getD i false = false := by
    have h0 := (mem_ready.1 hr).1
    rcases Nat.lt_or_ge i listed.size with h' | h'
    ·simp [h'] at h0 ⊢; exact h0
    ·simp [Array.getElem?_eq_none h']
   have h2 := wpOp_putIf hoj hfj (fun cs b => hsel i oi cs b hi) (fun cs b => hsel j oj cs b hoj) hQ hy h1
   have hfree' : ∀ k ok, ops[k]? = some ok → k ≠ i → (listed.setIfInBounds j true).getD k true = false →
     (∀ e ∈ ok.after, Region.binds .any e = true → e.on ≠ i) → oi.apart ops ok = true := fun k ok hk hki hun hno => by
    refine hfree k ok hk hki ?_ hno
    by_cases hjk : j = k
    ·subst hjk; exact hjun
    ·rw [getD_set_ne true hjk] at hun; exact hun
   refine wpOp_mono (fun a' w' h3 => ⟨h3.2.1, ih (listed.setIfInBounds j true) a' w' (hcl.set hj) hfree' (ready_mono hr (Ne.symm hji)) h3.1 (hDj listed j hcl hil hj w w' hD h3.2.1) ?_⟩) h2
   rw [Array.setIfInBounds_comm _ _ hji]
   exact h3.2.2
theorem anyX_switch {S' : World → Prop} {T' : List Nat} : ∀ (fuel : Nat) (listed : Array Bool) (a : Act) (w : World),
  (∀ j, listed.getD j true = false → j ∈ T) → anyX P ops Q S' T' fuel listed a w → anyX P ops Q S T fuel listed a w
 | 0, _, _, _, _, h => h
 | fuel + 1, listed, _, _, hT, h => ⟨h.1, fun i hi => wpOp_mono (fun a' w' h' => ⟨fun hn => absurd (hT i (mem_ready.1 hi).1) hn, anyX_switch fuel _ a' w' (fun j hj => hT j (by
   by_cases e : i = j
   ·subst e; exact (mem_ready.1 hi).1
   ·rwa [getD_set_ne true e] at hj)) h'.2⟩) (h.2 i hi)⟩
def bits (n m : Nat) : Array Bool := ((List.range n).map fun i => m.testBit i).toArray
theorem bits_set (n m i : Nat) : (bits n m).setIfInBounds i true = bits n (m ||| 2 ^ i) := by
 apply Array.ext
 ·simp [bits]
 ·intro j h1 h2
  simp only [bits, Array.size_setIfInBounds, List.size_toArray, List.length_map, List.length_range] at h1
  rw [Array.getElem_setIfInBounds]
  ·simp only [bits, List.getElem_toArray, List.getElem_map, List.getElem_range, Nat.testBit_or, Nat.testBit_two_pow]
   by_cases e : i = j
   ·subst e; simp
   ·simp [e]
  ·simpa [bits] using h1
theorem bits_zero (n : Nat) : bits n 0 = Array.replicate n false := by
 apply Array.ext <;> simp [bits]
def waitsFor (ops : Array Oper) (T : List Nat) (i : Nat) : Bool := T.all fun t => reach ops i 5 t
def takeOk (ops : Array Oper) (m i : Nat) : Bool :=
 Region.noSelect ops && Region.free .any ops (bits ops.size m) i && (Region.ready .any ops (bits ops.size m)).contains i
end
section
variable {P : Program} {f n : Nat} {ops : Array Oper} {k : List Item} {R : Post} {S : World → Prop} {T : List Nat} {σ : Env} {w : World} {fuel m : Nat}
def Qd (P : Program) (f : Nat) (k : List Item) (R : Post) : Exit → Act → World → Prop := fun e a w =>
 (e = .normal ∧ Runs P f k R a w) ∨ ∃ ch, e = .panic ch ∧ (∃ fn, P.funcs[f]? = some fn) ∧ a.defers = [] ∧ R.out (.panicked ch) w
theorem Qd.qn {e : Exit} {a : Act} (h : Qd P f k R e a w) : Qn P f k R e a w := by
 rcases h with h | ⟨ch, rfl, ⟨fn, hf⟩, hd, hR⟩
 ·exact .inl h
 ·exact .inr ⟨ch, rfl, fn, hf, .inl hd, by rw [hd]; exact hR⟩
def Dr (P : Program) (f n : Nat) (ops : Array Oper) (k : List Item) (R : Post) (S : World → Prop) (T : List Nat) (fuel m : Nat) (σ : Env) (w : World) : Prop :=
 ∀ a, Fr n σ a → a.defers = R.defers → Closed ops (bits ops.size m) → anyX P ops (Qd P f k R) S T fuel (bits ops.size m) a w
theorem rn_draw {id : Nat} (S : World → Prop) (T : List Nat) (hm : P.follows .mixedOrders = true) (h : Dr P f n ops k R S T ops.size 0 σ w.drew) : Rn P f n (.code (.region id ops true) :: k) R σ w :=
 fun a ha hd => by
  have h2 := h a ha hd (fun j o _ hj => by simp [bits_zero] at hj; by_cases hlt : j < ops.size <;> simp [hlt] at hj)
  rw [bits_zero] at h2
  have h3 : (Code.region id ops true).wp P (Qd P f k R) a w := wp_region_any hm (anyX_any (S := S) (T := T) _ _ _ _ h2)
  refine runs_region fun b k' cs => ?_
  obtain ⟨e, a', w', hq, harr⟩ := h3 b k' cs
  exact ⟨e, a', w', hq.qn, harr⟩
theorem qn_panic {d : Option Tmp} {v : Value} : ∀ c a w, Qd P f k R (.panic c) (a.put d v) w → Qd P f k R (.panic c) a w := fun _ _ _ h => by
 rcases h with ⟨h, _⟩ | ⟨ch, h, hf, hd, hR⟩
 ·cases h
 ·exact .inr ⟨ch, h, hf, by rwa [put_defers] at hd, hR⟩
theorem waitsFor_spec {i j : Nat} {listed : Array Bool} (h : waitsFor ops T i = true) (hc : Closed ops listed) (hi : listed.getD i false = false) (hj : j ∈ Region.ready .any ops listed) : j ∉ T := fun hm => by
 obtain ⟨_, oj, hoj, hall⟩ := mem_ready.1 hj
 have := reach_spec hc 5 j oj hoj hall (List.all_eq_true.1 h j hm)
 rw [hi] at this
 cases this
theorem dr_yields (i : Nat) {D : World → Prop} {o : Oper} {v : Value} (ho : ops[i]? = some o) (hk : takeOk ops m i = true) (hd : dstOk n o.dst = true)
  (hD : ∀ (listed : Array Bool) j, Closed ops listed → listed.getD i false = false → j ∈ Region.ready .any ops listed → ∀ w w', D w → (j ∉ T → S w → S w') → D w')
  (hv : ∀ a, Fr n σ a → YieldsIf P ops D o v a) (hw : D w) (h : Dr P f n ops k R S T fuel (m ||| 2 ^ i) (put σ o.dst v) w) : Dr P f n ops k R S T (fuel + 1) m σ w := fun a ha hdf hc => by
 simp only [takeOk, Bool.and_eq_true] at hk
 obtain ⟨⟨h1, h2⟩, h3⟩ := hk
 have h3' : i ∈ Region.ready .any ops (bits ops.size m) := by simpa using h3
 have hc' := hc.set h3'
 refine anyX_first (D := D) ho (Region.noSelect_spec h1) qn_panic hD fuel _ a w hc (fun j oj hj hne hun hno => Region.free_spec ho h2 j oj hj hne hun hno) h3' (hv a ha) hw ?_
 rw [bits_set] at hc' ⊢
 exact h _ (ha.put _ v hd) ((put_defers _ _ _).trans hdf) hc'
theorem dr_val (i : Nat) (v : Value) {o : Oper} (ho : ops[i]? = some o) (hk : (takeOk ops m i && waitsFor ops T i) = true) (hg : guardOf ops σ o.guard = some true) (hd : dstOk n o.dst = true)
  (hv : ∀ w, S w → Val P n σ o w v) (hS : S w) (h : Dr P f n ops k R S T fuel (m ||| 2 ^ i) (put σ o.dst v) w) : Dr P f n ops k R S T (fuel + 1) m σ w := by
 simp only [Bool.and_eq_true] at hk
 exact dr_yields (D := S) i ho hk.1 hd (fun listed j hc hi hj w w' hS h => h (waitsFor_spec hk.2 hc hi hj) hS) (fun a ha => .inl ⟨guardOf_spec ha hg, fun w hw => hv w hw a ha⟩) hS h
theorem dr_any (i : Nat) (v : Value) {o : Oper} (ho : ops[i]? = some o) (hk : takeOk ops m i = true) (hg : guardOf ops σ o.guard = some true) (hd : dstOk n o.dst = true)
  (hv : ∀ w, Val P n σ o w v) (h : Dr P f n ops k R S T fuel (m ||| 2 ^ i) (put σ o.dst v) w) : Dr P f n ops k R S T (fuel + 1) m σ w :=
 dr_yields (D := fun _ => True) i ho hk hd (fun _ _ _ _ _ _ _ _ _ => trivial) (fun a ha => .inl ⟨guardOf_spec ha hg, fun w _ => hv w a ha⟩) trivial h
theorem dr_not (i : Nat) {o : Oper} (ho : ops[i]? = some o) (hk : takeOk ops m i = true) (hg : guardOf ops σ o.guard = some false) (hd : dstOk n o.dst = true)
  (h : Dr P f n ops k R S T fuel (m ||| 2 ^ i) (put σ o.dst undef) w) : Dr P f n ops k R S T (fuel + 1) m σ w :=
 dr_yields (D := fun _ => True) i ho hk hd (fun _ _ _ _ _ _ _ _ _ => trivial) (fun _ ha => .inr ⟨guardOf_spec ha hg, rfl⟩) trivial h
theorem dr_sub {σ' : Env} (hs : Sub σ' σ) (h : Dr P f n ops k R S T fuel m σ' w) : Dr P f n ops k R S T fuel m σ w := fun a ha hdf hc => h a (ha.sub hs) hdf hc
theorem dr_op (i : Nat) {o : Oper} (ho : ops[i]? = some o) (hr : Region.ready .any ops (bits ops.size m) = [i]) (hg : guardOf ops σ o.guard = some true) (hd : dstOk n o.dst = true)
  (h : OpTo P n σ o w fun v w' => (i ∉ T → S w') ∧ Dr P f n ops k R S T fuel (m ||| 2 ^ i) (put σ o.dst v) w') : Dr P f n ops k R S T (fuel + 1) m σ w := fun a ha hdf hc => by
 refine ⟨fun h0 => (by rw [hr] at h0; cases h0), fun j hj => ?_⟩
 have hc' := hc.set hj
 rw [hr] at hj
 obtain rfl : j = i := by simpa using hj
 unfold wpOp
 simp only [ho, guardOf_spec ha hg, if_true]
 refine .inl (h a ha _ _ fun v w' hv => ⟨fun ht _ => hv.1 ht, ?_⟩)
 rw [bits_set] at hc' ⊢
 exact hv.2 _ (ha.put _ v hd) ((put_defers _ _ _).trans hdf) hc'
theorem dr_op2 (i j : Nat) {oi oj : Oper} (hi : ops[i]? = some oi) (hj : ops[j]? = some oj) (hr : Region.ready .any ops (bits ops.size m) = [i, j])
  (hgi : guardOf ops σ oi.guard = some true) (hdi : dstOk n oi.dst = true) (hgj : guardOf ops σ oj.guard = some true) (hdj : dstOk n oj.dst = true)
  (h1 : OpTo P n σ oi w fun v w' => (i ∉ T → S w') ∧ Dr P f n ops k R S T fuel (m ||| 2 ^ i) (put σ oi.dst v) w')
  (h2 : OpTo P n σ oj w fun v w' => (j ∉ T → S w') ∧ Dr P f n ops k R S T fuel (m ||| 2 ^ j) (put σ oj.dst v) w') : Dr P f n ops k R S T (fuel + 1) m σ w := fun a ha hdf hc => by
 refine ⟨fun h0 => (by rw [hr] at h0; cases h0), fun x hx => ?_⟩
 have hc' := hc.set hx
 rw [hr] at hx
 rcases (by simpa using hx : x = i ∨ x = j) with rfl | rfl
 ·unfold wpOp
  simp only [hi, guardOf_spec ha hgi, if_true]
  refine .inl (h1 a ha _ _ fun v w' hv => ⟨fun ht _ => hv.1 ht, ?_⟩)
  rw [bits_set] at hc' ⊢
  exact hv.2 _ (ha.put _ v hdi) ((put_defers _ _ _).trans hdf) hc'
 ·unfold wpOp
  simp only [hj, guardOf_spec ha hgj, if_true]
  refine .inl (h2 a ha _ _ fun v w' hv => ⟨fun ht _ => hv.1 ht, ?_⟩)
  rw [bits_set] at hc' ⊢
  exact hv.2 _ (ha.put _ v hdj) ((put_defers _ _ _).trans hdf) hc'
def leftIn (n m : Nat) (T : List Nat) : Bool := (List.range n).all fun j => m.testBit j || T.contains j
theorem dr_switch (S' : World → Prop) (T' : List Nat) (hT : leftIn ops.size m T = true) (h : Dr P f n ops k R S' T' fuel m σ w) : Dr P f n ops k R S T fuel m σ w := fun a ha hdf hc =>
 anyX_switch fuel _ a w (fun j hj => by
  by_cases hlt : j < ops.size
  ·have h1 := List.all_eq_true.1 hT j (List.mem_range.2 hlt)
   simp [bits, hlt] at hj
   simpa [hj] using h1
  ·simp [bits, hlt] at hj) (h a ha hdf hc)
theorem dr_with (fuel' m' : Nat) (I : Env → World → Prop) (hcont : ∀ σ' w', I σ' w' → Dr P f n ops k R S T fuel' m' σ' w')
  (hmain : (∀ σ' w', I σ' w' → Dr P f n ops k R S T fuel' m' σ' w') → Dr P f n ops k R S T fuel m σ w) : Dr P f n ops k R S T fuel m σ w := hmain hcont
theorem dr_done (hr : Region.ready .any ops (bits ops.size m) = []) (h : Rn P f n k R σ w) : Dr P f n ops k R S T fuel m σ w := fun a ha hdf _ => by
 cases fuel with
 | zero => exact ⟨hr, .inl ⟨rfl, h a ha hdf⟩⟩
 | succ fuel => exact ⟨fun _ => .inl ⟨rfl, h a ha hdf⟩, by rw [hr]; simp⟩
theorem dr_opE (i : Nat) {o : Oper} {fn : Func} {K Kp : Value → World → Prop} (hf : P.funcs[f]? = some fn) (ho : ops[i]? = some o) (hr : Region.ready .any ops (bits ops.size m) = [i]) (hg : guardOf ops σ o.guard = some true) (hd : dstOk n o.dst = true)
  (h : OpE P n σ o w (fun v w' => (i ∉ T → S w') ∧ Dr P f n ops k (endR K Kp) S T fuel (m ||| 2 ^ i) (put σ o.dst v) w') Kp) : Dr P f n ops k (endR K Kp) S T (fuel + 1) m σ w := fun a ha hdf hc => by
 refine ⟨fun h0 => (by rw [hr] at h0; cases h0), fun j hj => ?_⟩
 have hc' := hc.set hj
 rw [hr] at hj
 obtain rfl : j = i := by simpa using hj
 unfold wpOp
 simp only [ho, guardOf_spec ha hg, if_true]
 refine .inl (h a ha _ _ (fun v w' hv => ⟨fun ht _ => hv.1 ht, ?_⟩) fun v w' hv => .inr ⟨_, rfl, ⟨fn, hf⟩, hdf, .inr ⟨v, rfl, hv⟩⟩)
 rw [bits_set] at hc' ⊢
 exact hv.2 _ (ha.put _ v hd) ((put_defers _ _ _).trans hdf) hc'
end
def RnD (P : Program) (f n : Nat) (todo : List Item) (RD : Ending → FrameMode → World → Prop) (u : FrameMode) (σ : Env) (w : World) : Prop :=
 ∀ a, Fr n σ a → a.defers = [] → ∀ (b c : Frame) (cs : List Frame), b.fn = f → b.kind = .deferred → b.roundOf = none → c.mode = u →
  ∃ e u' w' fr, RD e u' w' ∧ Comes P (lone (b.at a todo) (c :: cs) w) (lone fr ({ c with mode := u' } :: cs) w') e ∧ fr.kind = .deferred ∧ fr.going P w' e
section
variable {P : Program} {f n : Nat} {k : List Item} {RD : Ending → FrameMode → World → Prop} {u : FrameMode} {σ : Env} {w : World}
theorem callsD_of {fn : Func} {c : Code} {args : List Value} (n : Nat) (hf : P.funcs[f]? = some fn) (hb : fn.body = some c) (hn : fn.ntmps = n) (hl : args.length ≤ n)
  (h : RnD P f n [.code c] RD u (envOf args 0) w) : CallsD P f args.toArray u w RD := by
 intro c₀ cs hu
 let b : Frame := { (default : Frame) with fn := f, kind := .deferred }
 have henter : Frame.enter P f args.toArray .deferred =
   b.at { tmps := args.toArray ++ Array.replicate (fn.ntmps - args.toArray.size) undef, defers := [] } [.code c] := by
  simp [Frame.enter, Frame.at, hf, hb, b]
 have := h { tmps := args.toArray ++ Array.replicate (fn.ntmps - args.toArray.size) undef, defers := [] }
  ⟨by simp [hn]; omega, fun t v hv => by
   have := (look_envOf args 0 t v hv).2
   simp only [Nat.sub_zero] at this
   have hlt : t < args.length := (List.getElem?_eq_some_iff.1 this).1
   rw [Array.getElem?_append_left (by simpa using hlt)]
   simpa using this⟩ rfl b c₀ cs rfl rfl rfl hu
 rwa [← henter] at this
theorem rnD_seq {x y : Code} (h : RnD P f n (.code x :: .code y :: k) RD u σ w) : RnD P f n (.code (.seq x y) :: k) RD u σ w := fun a ha hd b c cs h1 h2 h3 h4 =>
 let ⟨e, u', w', fr, hR, hs, r⟩ := h a ha hd b c cs h1 h2 h3 h4; ⟨e, u', w', fr, hR, Comes.of_steps (.one step_seq) hs, r⟩
def defR (RD : Ending → FrameMode → World → Prop) (u : FrameMode) : Post := ⟨.deferred, [], fun e w => RD e u w⟩
theorem rnD_recover_of {id : Nat} {o : Oper} {l : List Oper} {v : Value} {u' : FrameMode} (hg : guardOf (o :: l).toArray σ o.guard = some true) (hd : dstOk n o.dst = true)
  (hrun : ∀ a, Fr n σ a → (execOp a.eval o).run P w = .ok .recover w)
  (hrec : ∀ (c : Frame) (cs : List Frame), c.mode = u → (recoverD (c :: cs)).getD (.nilIface, c :: cs) = (v, { c with mode := u' } :: cs))
  (h : Pl P f n (o :: l).toArray k (defR RD u') l (put σ o.dst v) w) : RnD P f n (.code (.region id (o :: l).toArray false) :: k) RD u σ w := fun a ha hdf b c cs h1 h2 h3 h4 => by
 have hrest : wpOps P (o :: l).toArray (Qn P f k (defR RD u')) (List.range' 1 l.length) (a.put o.dst v) w := by
  rw [wpOps_eq_wpList l 1 (fun j => by simp [Nat.add_comm 1 j])]
  exact h _ (ha.put _ v hd) ((put_defers _ _ _).trans hdf)
 have hc' : ({ c with mode := u' } : Frame).mode = u' := rfl
 obtain ⟨e, a', w', hq, harr⟩ := wp_ops _ _ _ hrest b k ({ c with mode := u' } :: cs)
 obtain ⟨e, w'', fr, hR, hs, _, hk, hgo⟩ := runs_arrives hq harr h1 h2
 have ho : ((o :: l).toArray)[0]? = some o := by simp
 have hw : Region.wanted o (yielded (o :: l).toArray a.tmps) = true := guardOf_spec ha hg
 have hrange : List.range (o :: l).toArray.size = 0 :: List.range' 1 l.length := by
  rw [List.range_eq_range']
  simp [List.range'_succ]
 have hgs := stepG_op (P := P) (b := b) (k := k) (cs := c :: cs) (w := w) (rest := List.range' 1 l.length) ho hw
 have hfin : ∀ v, (b.at a (.inRegion (o :: l).toArray (0 :: List.range' 1 l.length) :: k)).finish v = b.at (a.put o.dst v) (.inRegion (o :: l).toArray (List.range' 1 l.length) :: k) := by
  intro v; rw [Frame.finish_at, ho]; rfl
 have hkd : (b.at a (.inRegion (o :: l).toArray (0 :: List.range' 1 l.length) :: k)).kind = .deferred := h2
 have htr := tryRecover_deferred hkd (c :: cs)
 have hr := hrun a ha
 have hstep : step P (lone (b.at a (.inRegion (o :: l).toArray (0 :: List.range' 1 l.length) :: k)) (c :: cs) w) = .next (lone (b.at (a.put o.dst v) (.inRegion (o :: l).toArray (List.range' 1 l.length) :: k)) ({ c with mode := u' } :: cs) w) := by
  refine step_lone_go ?_
  have hrec' := hrec c cs h4
  cases hx : recoverD (c :: cs) with
  | some p =>
   obtain ⟨v', cs'⟩ := p
   rw [hx] at hrec'
   simp only [Option.getD_some, Prod.mk.injEq] at hrec'
   obtain ⟨rfl, rfl⟩ := hrec'
   rw [hgs, ← hfin]
   simp only [Frame.at] at htr ⊢
   simp [stepG.apply, hr, htr, hx]
  | none =>
   rw [hx] at hrec'
   simp only [Option.getD_none, Prod.mk.injEq] at hrec'
   obtain ⟨rfl, he⟩ := hrec'
   rw [← he, hgs, ← hfin]
   simp only [Frame.at] at htr ⊢
   simp [stepG.apply, hr, htr, hx]
 refine ⟨e, u', w'', fr, hR, Comes.of_steps (.head step_region (by rw [hrange]; exact .one hstep)) hs, ?_, hgo⟩
 cases e with
 | returned v => exact hk
 | panicked ch => exact hk.elim (fun h => h) fun h => by cases h
 | outgrown => exact hk.elim (fun h => h) fun h => by cases h
theorem rnD_recover {id : Nat} {o : Oper} {l : List Oper} (v : Value) (hu : u = .panicking (pan v)) (hg : guardOf (o :: l).toArray σ o.guard = some true) (hd : dstOk n o.dst = true)
  (hrun : ∀ a, Fr n σ a → (execOp a.eval o).run P w = .ok .recover w)
  (h : Pl P f n (o :: l).toArray k (defR RD (.panicking [{ v := v, recovered := true }])) l (put σ o.dst v) w) : RnD P f n (.code (.region id (o :: l).toArray false) :: k) RD u σ w :=
 rnD_recover_of hg hd hrun (fun c cs hc => by
  subst hu
  simp [recoverD, hc, pan]) h
theorem rnD_norec {id : Nat} {o : Oper} {l : List Oper} (hu : u = .returning) (hg : guardOf (o :: l).toArray σ o.guard = some true) (hd : dstOk n o.dst = true)
  (hrun : ∀ a, Fr n σ a → (execOp a.eval o).run P w = .ok .recover w)
  (h : Pl P f n (o :: l).toArray k (defR RD .returning) l (put σ o.dst .nilIface) w) : RnD P f n (.code (.region id (o :: l).toArray false) :: k) RD u σ w :=
 rnD_recover_of hg hd hrun (fun c cs hc => by
  subst hu
  have he : ({ c with mode := .returning } : Frame) = c := by rw [← hc]
  simp [recoverD, hc, he]) h
end
end
section
def find {β : Type} : List (Nat × β) → Nat → Option β
 | [], _ => none
 | (s, v) :: r, t => match Nat.beq s t with
  | true => some v
  | false => find r t
theorem find_mem {β : Type} : ∀ {l : List (Nat × β)} {t : Nat} {x : β}, find l t = some x → (t, x) ∈ l
 | [], _, _, h => by simp [find] at h
 | (s, y) :: r, t, x, h => by
  unfold find at h
  cases hb : Nat.beq s t with
  | true =>
   have hb' := Nat.eq_of_beq_eq_true hb
   subst hb'
   simp at h
   subst h
   simp
  | false =>
   simp only [hb] at h
   exact List.mem_cons_of_mem _ (find_mem h)
structure Tbl where
 fld : List (Nat × List (Nat × Nat))
 sl : List (Nat × Nat)
 ar : List (Nat × (Nat × Nat))
 one : List (Nat × Unit)
 ag : List (Nat × Nat)
def fldOk (P : Program) (s f off : Nat) : Bool :=
 match P.underlying s with
 | some (.struct fs) => match fs[f]? with
  | some d => d.offset == off && (match P.info? d.type with | some i => i.size != 0 | none => false)
  | none => false
 | _ => false
def sizeOk (P : Program) (t n : Nat) : Bool :=
 match P.info? t with
 | some i => i.size == n
 | none => false
def slOk (P : Program) (t n : Nat) : Bool :=
 match P.underlying t with
 | some (.slice e) => sizeOk P e n
 | _ => false
def arOk (P : Program) (t len n : Nat) : Bool :=
 match P.underlying t with
 | some (.array l e) => l == len && sizeOk P e n
 | _ => false
def oneOk (P : Program) (t : Nat) : Bool :=
 match P.underlying t with
 | some (.struct _) | some (.array _ _) | none => false
 | some _ => sizeOk P t 1
def agOk (P : Program) (t n : Nat) : Bool :=
 match P.underlying t with
 | some (.struct _) | some (.array _ _) => sizeOk P t n
 | _ => false
def Tbl.check (T : Tbl) (P : Program) : Bool :=
 (T.fld.all fun p => p.2.all fun q => fldOk P p.1 q.1 q.2) && (T.sl.all fun p => slOk P p.1 p.2) && (T.ar.all fun p => arOk P p.1 p.2.1 p.2.2) && (T.one.all fun p => oneOk P p.1) && (T.ag.all fun p => agOk P p.1 p.2)
def Tbl.fldAt (T : Tbl) (s f : Nat) : Option Nat :=
 match find T.fld s with
 | some l => find l f
 | none => none
section
variable {P : Program} {T : Tbl} {n : Nat} {σ : Env} {o : Oper} {w : World} {v : Value}
theorem Tbl.fld_ok (hT : T.check P = true) {s f off : Nat} (h : T.fldAt s f = some off) : fldOk P s f off = true := by
 simp only [Tbl.check, Bool.and_eq_true] at hT
 unfold Tbl.fldAt at h
 cases hs : find T.fld s with
 | none => simp [hs] at h
 | some l =>
  simp only [hs] at h
  exact List.all_eq_true.1 (List.all_eq_true.1 hT.1.1.1.1 _ (find_mem hs)) _ (find_mem h)
theorem Tbl.sl_ok (hT : T.check P = true) {t m : Nat} (h : find T.sl t = some m) : slOk P t m = true := by
 simp only [Tbl.check, Bool.and_eq_true] at hT
 exact List.all_eq_true.1 hT.1.1.1.2 _ (find_mem h)
theorem Tbl.ar_ok (hT : T.check P = true) {t : Nat} {m : Nat × Nat} (h : find T.ar t = some m) : arOk P t m.1 m.2 = true := by
 simp only [Tbl.check, Bool.and_eq_true] at hT
 exact List.all_eq_true.1 hT.1.1.2 _ (find_mem h)
theorem Tbl.one_ok (hT : T.check P = true) {t : Nat} (h : find T.one t = some ()) : oneOk P t = true := by
 simp only [Tbl.check, Bool.and_eq_true] at hT
 exact List.all_eq_true.1 hT.1.2 _ (find_mem h)
theorem Tbl.ag_ok (hT : T.check P = true) {t m : Nat} (h : find T.ag t = some m) : agOk P t m = true := by
 simp only [Tbl.check, Bool.and_eq_true] at hT
 exact List.all_eq_true.1 hT.2 _ (find_mem h)
theorem sizeOk_run {t m : Nat} (h : sizeOk P t m = true) (w : World) : (sizeOf t).run P w = .ok m w := by
 unfold sizeOk at h
 cases hi : P.info? t with
 | none => simp [hi] at h
 | some i =>
  simp only [hi, beq_iff_eq] at h
  simp [sizeOf, typeInfo, hi, h]
theorem sizeOk_info {t m : Nat} (h : sizeOk P t m = true) : (P.info? t).map (·.size) = some m := by
 unfold sizeOk at h
 cases hi : P.info? t with
 | none => simp [hi] at h
 | some i => simpa [hi] using h
theorem fldOk_run {s f off b q : Nat} (h : fldOk P s f off = true) (w : World) : (Instr.fieldAt s (.pointer (some ⟨b, q, none⟩)) f).run P w = .ok (.pointer (some ⟨b, q + off, none⟩)) w := by
 unfold fldOk at h
 split at h
 ·rename_i fs hu
  split at h
  ·rename_i d hd
   simp only [Bool.and_eq_true, beq_iff_eq] at h
   obtain ⟨rfl, h2⟩ := h
   split at h2
   ·rename_i i hi
    have hne : i.size ≠ 0 := by simpa using h2
    have hsz : (sizeOf d.type).run P w = .ok i.size w := by simp [sizeOf, typeInfo, hi]
    simp [Instr.fieldAt, run_underlying hu, hd, Instr.sureAddr, fieldPlace, hsz, hne, Addr.add_mid]
   ·cases h2
  ·cases h
 ·cases h
def pureOp (T : Tbl) (σ : Env) : Op → Option Value
 | .move x => ev σ x
 | .assign x => ev σ x
 | .pick c a b => match ev σ c with
  | some (.bool true) => ev σ a
  | some (.bool false) => ev σ b
  | _ => none
 | .nilCheck x => match ev σ x with
  | some (.pointer (some a)) => some (.pointer (some a))
  | _ => none
 | .fieldAddr s x f => match ev σ x with
  | some (.pointer (some ⟨b, q, none⟩)) => match T.fldAt s f with
   | some off => some (.pointer (some ⟨b, q + off, none⟩))
   | none => none
  | _ => none
 | .extract x i => match ev σ x with
  | some (.tuple vs) => vs[i]?
  | _ => none
 | .makeFunc fn first captured => match evs σ first.toList with
  | none => none
  | some xs => match evs σ captured.toList with
   | none => none
   | some ys => some (.func fn xs.toArray ys.toArray)
 | .unOp .not _ x => match ev σ x with
  | some (.bool b) => some (.bool !b)
  | _ => none
 | .call c => match c.callee, c.args.toList, c.argTypes.toList with
  | .builtin .len, [x], [t] => match find T.sl t with
   | none => none
   | some _ => match ev σ x with
    | some (.slice _ m _) => some (.int .i64 m)
    | _ => none
  | _, _, _ => none
 | _ => none
theorem map_eq_toArray {α β : Type} {xs : Array α} {g : α → β} {ys : List β} (h : xs.toList.map g = ys) : xs.map g = ys.toArray := by
 apply Array.ext'
 simpa using h
theorem val_pure (hT : T.check P = true) (h : pureOp T σ o.op = some v) (w : World) : Val P n σ o w v := by
 intro a ha
 unfold pureOp at h
 split at h
 ·rename_i x ho; simp [execOp, ho, ha.eval h]
 ·rename_i x ho; simp [execOp, ho, ha.eval h]
 ·rename_i c x y ho
  split at h
  ·rename_i hc; simp [execOp, ho, ha.eval hc, asBool, ha.eval h]
  ·rename_i hc; simp [execOp, ho, ha.eval hc, asBool, ha.eval h]
  ·cases h
 ·rename_i x ho
  split at h
  ·rename_i ad hx; cases h; simp [execOp, ho, ha.eval hx]
  ·cases h
 ·rename_i s x f ho
  split at h
  ·rename_i b q hx
   split at h
   ·rename_i off hf
    cases h
    simp [execOp, ho, ha.eval hx, fldOk_run (Tbl.fld_ok hT hf)]
   ·cases h
  ·cases h
 ·rename_i x i ho
  split at h
  ·rename_i vs hx
   simp [execOp, ho, ha.eval hx, Instr.extract, h]
  ·cases h
 ·rename_i fn first captured ho
  split at h
  ·cases h
  ·rename_i xs hxs
   split at h
   ·cases h
   ·rename_i ys hys
    cases h
    simp only [execOp, ho]
    rw [map_eq_toArray (ha.evals hxs), map_eq_toArray (ha.evals hys)]
    simp [Instr.makeFunc]
 ·rename_i t x ho
  split at h
  ·rename_i b hx
   cases h
   simp [execOp, ho, ha.eval hx, Op.unary]
  ·cases h
 ·rename_i c ho
  split at h
  ·rename_i x t hcal hargs htys
   split at h
   ·cases h
   ·rename_i m hm
    split at h
    ·rename_i ad len cap hx
     cases h
     have hs := Tbl.sl_ok hT hm
     unfold slOk at hs
     split at hs
     ·rename_i e hu
      have e1 : c.args = #[x] := Array.ext' hargs
      have e2 : c.argTypes = #[t] := Array.ext' htys
      simp [execOp, ho, resolve, hcal, e1, e2, invoke, builtin, Builtin.len_, run_underlying hu, ha.eval hx, goInt]
     ·cases hs
    ·cases h
  ·cases h
 ·cases h
section
variable {f : Nat} {ops : Array Oper} {k : List Item} {R : Post}
theorem pl_pure {l : List Oper} (hT : T.check P = true) (hg : guardOf ops σ o.guard = some true) (hv : pureOp T σ o.op = some v) (hd : dstOk n o.dst = true)
  (h : Pl P f n ops k R l (put σ o.dst v) w) : Pl P f n ops k R (o :: l) σ w := pl_val v hg hd (val_pure hT hv w) h
theorem dr_pure {S : World → Prop} {T' : List Nat} {fuel m : Nat} (i : Nat) (hT : T.check P = true) (ho : ops[i]? = some o) (hk : takeOk ops m i = true) (hg : guardOf ops σ o.guard = some true)
  (hv : pureOp T σ o.op = some v) (hd : dstOk n o.dst = true) (h : Dr P f n ops k R S T' fuel (m ||| 2 ^ i) (put σ o.dst v) w) : Dr P f n ops k R S T' (fuel + 1) m σ w :=
 dr_any i v ho hk hg hd (fun w => val_pure hT hv w) h
end
def intOp (op : BinOp) (k : IntKind) (a b : Int) : Option Value :=
 match op with
 | .add => some (.int k (k.wrap (a + b)))
 | .sub => some (.int k (k.wrap (a - b)))
 | .mul => some (.int k (k.wrap (a * b)))
 | .rem => if b = 0 then none else some (.int k (a.tmod b))
 | .and => some (.int k (k.wrap (BitVec.ofInt k.bits a &&& BitVec.ofInt k.bits b).toNat))
 | .eql => some (.bool (a == b))
 | .neq => some (.bool (a != b))
 | .lss => some (.bool (a < b))
 | .leq => some (.bool (a ≤ b))
 | .gtr => some (.bool (a > b))
 | .geq => some (.bool (a ≥ b))
 | _ => none
theorem val_int {op : BinOp} {t t' : TypeId} {x y : Operand} (k : IntKind) (a b : Int) (r : Value) (ho : o.op = .binOp op t x y t') (hx : ev σ x = some (.int k a)) (hy : ev σ y = some (.int k b))
    (hr : intOp op k a b = some r) (w : World) : Val P n σ o w r := by
  intro ac ha
  cases op <;> simp only [intOp] at hr <;> first
    | (cases hr; done)
    | (cases hr; simp [execOp, ho, ha.eval hx, ha.eval hy, eqGuard, binOp, Op.intArith, Op.intCmp, Op.intBits]; done)
    | (split at hr
       · cases hr
       · rename_i hb
         cases hr
         simp [execOp, ho, ha.eval hx, ha.eval hy, eqGuard, binOp, Op.intDiv, hb])
theorem wrap_i64 {x : Int} (h1 : -9223372036854775808 ≤ x) (h2 : x < 9223372036854775808) : IntKind.i64.wrap x = x := by
 have e : IntKind.i64.wrap x = if x % 18446744073709551616 ≥ 9223372036854775808 then x % 18446744073709551616 - 18446744073709551616 else x % 18446744073709551616 := by
  simp [IntKind.wrap, IntKind.bits, IntKind.signed]
 rw [e]
 split <;> omega
theorem val_shr {t t' : TypeId} {x y : Operand} (k k' : IntKind) (a b : Int) (r : Int) (ho : o.op = .binOp .shr t x y t') (hx : ev σ x = some (.int k a)) (hy : ev σ y = some (.int k' b))
  (hb : 0 ≤ b) (hr : a.fdiv (2 ^ min b.toNat k.bits) = r) (w : World) : Val P n σ o w (.int k r) := by
 intro ac ha
 subst hr
 have : ¬ b < 0 := by omega
 simp [execOp, ho, ha.eval hx, ha.eval hy, eqGuard, binOp, Op.shift, this]
def convOk (P : Program) (src dst : Nat) (k : IntKind) : Bool :=
 match P.underlying src, P.underlying dst with
 | some _, some (.int k') => decide (k' = k)
 | _, _ => false
theorem val_conv {src dst : TypeId} {x : Operand} (k k' : IntKind) (a r : Int) (ho : o.op = .convert src dst x) (hx : ev σ x = some (.int k a)) (hc : convOk P src dst k' = true) (hr : k'.wrap a = r) (w : World) : Val P n σ o w (.int k' r) := by
 intro ac ha
 subst hr
 unfold convOk at hc
 split at hc
 ·rename_i d k2 h1 h2
  have hk : k2 = k' := by simpa using hc
  subst hk
  cases d <;> simp [execOp, ho, ha.eval hx, convert, run_underlying h1, run_underlying h2, Conv.intToInt]
 ·cases hc
def Blk (w : World) (b : Nat) (L : List Value) (e : TypeId) : Prop := w.heap[b]? = some (.cells L.toArray e (0, 0))
theorem Blk.lt {b : Nat} {L : List Value} {e : TypeId} (h : Blk w b L e) : b < w.heap.size := (Array.getElem?_eq_some_iff.1 h).1
theorem Blk.drew {b : Nat} {L : List Value} {e : TypeId} (h : Blk w b L e) : Blk w.drew b L e := h
theorem Blk.alloc {b : Nat} {L : List Value} {e : TypeId} (h : Blk w b L e) (ob : Obj) : Blk (w.alloc ob) b L e := (heap_alloc_old w ob b h.lt).trans h
theorem Blk.new (w : World) (L : List Value) (e : TypeId) : Blk (w.alloc (.cells L.toArray e)) w.heap.size L e := heap_alloc_new w _
theorem Blk.set {b : Nat} {L : List Value} {e : TypeId} (h : Blk w b L e) (L' : List Value) : Blk (w.setRow b L'.toArray) b L' e := setRow_heap w b _ _ e _ h
theorem Blk.other {b c : Nat} {L : List Value} {e : TypeId} (h : Blk w b L e) (X : Array Value) (hne : b ≠ c) : Blk (w.setRow c X) b L e := by
 unfold Blk at *
 rw [setRow_other w c b X hne]; exact h
theorem Blk.cell {b i : Nat} {L : List Value} {e : TypeId} (h : Blk w b L e) (hv : L[i]? = some v) : w.cell? ⟨b, i, none⟩ = some v := by
 unfold Blk at h
 simp only [World.cell?, h]
 simpa using hv
theorem Blk.frozen {b i : Nat} {L : List Value} {e : TypeId} (h : Blk w b L e) : w.frozen? ⟨b, i, none⟩ = false := by
 unfold Blk at h
 simp [World.frozen?, h]
theorem Blk.range {b i : Nat} {L cs : List Value} {e : TypeId} (h : Blk w b L e) (hc : (L.drop i).take cs.length = cs) : w.rangeAt b i cs := fun j u hu => by
 refine h.cell ?_
 rw [← hc, List.getElem?_take] at hu
 split at hu
 ·simpa using hu
 ·cases hu
theorem Blk.there {b i m : Nat} {L : List Value} {e : TypeId} (h : Blk w b L e) (hl : i + m ≤ L.length) : w.there b i m := fun j hj => by
 refine ⟨?_, h.frozen⟩
 rw [h.cell (v := L[i + j]'(by omega)) (List.getElem?_eq_getElem (by omega))]
 rfl
def splice (L : List Value) (i : Nat) (vs : List Value) : List Value := L.take i ++ vs ++ L.drop (i + vs.length)
theorem splice_length {L vs : List Value} {i : Nat} (h : i + vs.length ≤ L.length) : (splice L i vs).length = L.length := by
 simp [splice]; omega
theorem setRow_setCell (w : World) (b i : Nat) (v : Value) (X : Array Value) : (w.setCell ⟨b, i, none⟩ v).setRow b X = w.setRow b X := by
 have : (w.setCell ⟨b, i, none⟩ v).setRow b X = { w with heap := ((w.heap.modify b fun | .cells c elem frozen => .cells (if (none : Option Nat).isSome then c else c.setIfInBounds i v) elem frozen | o => o).modify b fun | .cells _ elem frozen => .cells X elem frozen | o => o) } := rfl
 rw [this]
 unfold World.setRow
 congr 1
 apply Array.ext
 ·simp
 ·intro j h1 h2
  simp only [Array.getElem_modify]
  by_cases e : b = j
  ·subst e
   simp only [if_true]
   cases w.heap[b]'(by simpa using h2) <;> rfl
  ·simp [e]
theorem setCells_eq {e : TypeId} : ∀ (vs : List Value) (w : World) (b i : Nat) (L : List Value), Blk w b L e → i + vs.length ≤ L.length → w.setCells b i vs = w.setRow b (splice L i vs).toArray
 | [], w, b, i, L, h, _ => by
  have hs : splice L i [] = L := by simp [splice]
  rw [hs]
  unfold World.setCells World.setRow
  cases w with
  | mk heap tape drawn os output =>
   congr 1
   apply Array.ext
   ·simp
   ·intro j h1 h2
    simp only [Array.getElem_modify]
    by_cases ej : b = j
    ·subst ej
     have hb : heap[b] = .cells L.toArray e (0, 0) := by
      have := h
      unfold Blk at this
      simpa [Array.getElem?_eq_some_iff, h1] using this
     simp [hb]
    ·simp [ej]
 | v :: r, w, b, i, L, h, hl => by
  simp only [List.length_cons] at hl
  have h1 : Blk (w.setCell ⟨b, i, none⟩ v) b (L.set i v) e := by
   unfold Blk at *
   simp only [World.setCell, Array.getElem?_modify, if_true, h, Option.map_some]
   simp
  rw [World.setCells, setCells_eq r _ b (i + 1) (L.set i v) h1 (by simp; omega), setRow_setCell]
  have hi : i < L.length := by omega
  have t1 : (L.set i v).take (i + 1) = L.take i ++ [v] := by
   rw [List.take_succ_eq_append_getElem (by simpa using hi), List.take_set_of_le (Nat.le_refl _)]
   simp
  have t2 : (L.set i v).drop (i + 1 + r.length) = L.drop (i + (r.length + 1)) := by
   rw [List.drop_set_of_lt (by omega), Nat.add_assoc, Nat.add_comm 1]
  simp only [splice, List.length_cons, t1, t2]
  simp
theorem val_load1 {t : TypeId} {x : Operand} {b i : Nat} (hT : T.check P = true) (ho : o.op = .load t x) (hx : ev σ x = some (.pointer (some ⟨b, i, none⟩))) (ht : find T.one t = some ()) (hc : w.cell? ⟨b, i, none⟩ = some v) : Val P n σ o w v := by
 intro a ha
 have hs := Tbl.one_ok hT ht
 unfold oneOk at hs
 cases hu : P.underlying t with
 | none => simp [hu] at hs
 | some d =>
  have hagg : (isAgg t).run P w = .ok false w := by
   unfold isAgg
   rw [Sem.run_bind, run_underlying hu w]
   cases d <;> simp_all
  simp [execOp, ho, ha.eval hx, Instr.loadAt, Instr.sureAddr, loadVar, hagg, hc]
theorem loadVar_agg {t b i : Nat} {cs : List Value} (hT : T.check P = true) (ht : find T.ag t = some cs.length) (hc : w.rangeAt b i cs) : (loadVar t ⟨b, i, none⟩).run P w = .ok (.agg cs.toArray) w := by
 have hs := Tbl.ag_ok hT ht
 unfold agOk at hs
 cases hu : P.underlying t with
 | none => simp [hu] at hs
 | some d =>
  have hd : d.isRow = true := by cases d <;> simp_all
  refine run_loadVar_mid w b i t cs d hc hu hd ?_
  refine sizeOk_info ?_
  cases d <;> simp_all
theorem val_load {t : TypeId} {x : Operand} {b i : Nat} (cs : List Value) (hT : T.check P = true) (ho : o.op = .load t x) (hx : ev σ x = some (.pointer (some ⟨b, i, none⟩))) (ht : find T.ag t = some cs.length) (hc : w.rangeAt b i cs) : Val P n σ o w (.agg cs.toArray) := by
 intro a ha
 simp [execOp, ho, ha.eval hx, Instr.loadAt, Instr.sureAddr, loadVar_agg hT ht hc]
theorem val_index {t : TypeId} {x ix : Operand} {b q len cap sz : Nat} {kk : IntKind} (j : Nat) {i : Int} (hT : T.check P = true) (ho : o.op = .indexAddr t x ix) (hx : ev σ x = some (.slice (some ⟨b, q, none⟩) len cap)) (hi : ev σ ix = some (.int kk i))
  (ht : find T.sl t = some sz) (hij : i = (j : Int)) (hlt : j < len) (w : World) : Val P n σ o w (.pointer (some ⟨b, q + j * sz, none⟩)) := by
 intro a ha
 subst hij
 have hs := Tbl.sl_ok hT ht
 unfold slOk at hs
 split at hs
 ·rename_i e hu
  have h1 : (0 : Int) ≤ (j : Int) ∧ (j : Int) < (len : Int) := by omega
  simp [execOp, ho, ha.eval hx, ha.eval hi, Instr.indexAt, asIntOf, run_underlying hu, hlt, sizeOk_run hs, Addr.add_mid]
 ·cases hs
theorem val_indexArr {t : TypeId} {x ix : Operand} {b q len sz : Nat} {kk : IntKind} (j : Nat) {i : Int} (hT : T.check P = true) (ho : o.op = .indexAddr t x ix) (hx : ev σ x = some (.pointer (some ⟨b, q, none⟩))) (hi : ev σ ix = some (.int kk i))
  (ht : find T.ar t = some (len, sz)) (hij : i = (j : Int)) (hlt : j < len) (w : World) : Val P n σ o w (.pointer (some ⟨b, q + j * sz, none⟩)) := by
 intro a ha
 subst hij
 have hs := Tbl.ar_ok hT ht
 unfold arOk at hs
 split at hs
 ·rename_i l e hu
  simp only [Bool.and_eq_true, beq_iff_eq] at hs
  obtain ⟨rfl, hs⟩ := hs
  simp [execOp, ho, ha.eval hx, ha.eval hi, Instr.indexAt, Instr.sureAddr, asIntOf, run_underlying hu, hlt, sizeOk_run hs, Addr.add_mid]
 ·cases hs
theorem val_sliceArr {t : TypeId} {x : Operand} {b q len sz : Nat} (hT : T.check P = true) (ho : o.op = .slice t x none none none) (hx : ev σ x = some (.pointer (some ⟨b, q, none⟩))) (ht : find T.ar t = some (len, sz)) (w : World) : Val P n σ o w (.slice (some ⟨b, q, none⟩) len len) := by
 intro a ha
 have hs := Tbl.ar_ok hT ht
 unfold arOk at hs
 split at hs
 ·rename_i l e hu
  simp only [Bool.and_eq_true, beq_iff_eq] at hs
  obtain ⟨rfl, hs⟩ := hs
  simp [execOp, ho, ha.eval hx, Instr.sliceAt, Instr.sliceBounds, Instr.sureAddr, run_underlying hu, sizeOk_run hs, Addr.add]
 ·cases hs
theorem val_notNil {t t' : TypeId} {x : Operand} {ad : Addr} {len cap sz : Nat} (hT : T.check P = true) (ho : o.op = .binOp .eql t x (.const (.slice none 0 0)) t') (hx : ev σ x = some (.slice (some ad) len cap)) (ht : find T.sl t = some sz) (w : World) : Val P n σ o w (.bool false) := by
 intro a ha
 have hs := Tbl.sl_ok hT ht
 unfold slOk at hs
 split at hs
 ·rename_i e hu
  have he : ∀ d, (Op.equalIn (d + 1) t (.slice (some ad) len cap) (.slice none 0 0)).run P w = .ok false w := fun d => by
   simp [Op.equalIn, run_underlying hu]
  have he' : (Op.equal t (.slice (some ad) len cap) (.slice none 0 0)).run P w = .ok false w := he 9999
  have hc : a.eval (.const (.slice none 0 0)) = .slice none 0 0 := rfl
  simp [execOp, ho, ha.eval hx, hc, eqGuard, binOp, he']
 ·cases hs
theorem opTo_store {t : TypeId} {x y : Operand} {b i : Nat} {L : List Value} {e : TypeId} {K : Value → World → Prop} (cs : List Value) (ho : o.op = .store t x y) (hx : ev σ x = some (.pointer (some ⟨b, i, none⟩))) (hy : ev σ y = some v) (hc : v.cells = cs.toArray)
  (hz : sizeOk P t cs.length = true) (hb : Blk w b L e) (hl : i + cs.length ≤ L.length) (h1 : ∀ u ∈ cs, u.oneCell' = true) (hK : K undef (w.setRow b (splice L i cs).toArray)) : OpTo P n σ o w K := by
 refine opTo_skip (w' := w.setRow b (splice L i cs).toArray) (fun a ha => ?_) hK
 have hth := hb.there hl
 have hst := run_storeCells_cells (P := P) b i cs 0 w (fun j hj => by simpa using (hth j hj).1) (fun j hj => by simpa using (hth j hj).2) h1
 rw [Nat.add_zero, setCells_eq cs w b i L hb hl] at hst
 simp [execOp, ho, ha.eval hx, ha.eval hy, Instr.storeAt, Instr.sureAddr, storeVar, sizeOk_run hz, hst, hc]
theorem opTo_box {t : TypeId} {x : Operand} {K : Value → World → Prop} (cs : List Value) (ho : o.op = .box t x) (hx : ev σ x = some v) (hc : v.cells = cs.toArray) (hK : K (.pointer (some ⟨w.heap.size, 0, none⟩)) (w.alloc (.cells cs.toArray t))) : OpTo P n σ o w K := by
 refine opTo_run (w' := w.alloc (.cells cs.toArray t)) (fun a ha => ?_) hK
 simp [execOp, ho, ha.eval hx, Instr.box, newVar, newRow, newObj, Sem.run, hc]
theorem opTo_alloc {t : TypeId} (cs : List Value) {K : Value → World → Prop} (ho : o.op = .alloc t) (hz : ((P.info? t).bind (·.zero)).map (·.cells) = some cs.toArray) (hK : K (.pointer (some ⟨w.heap.size, 0, none⟩)) (w.alloc (.cells cs.toArray t))) : OpTo P n σ o w K := by
 refine opTo_run (w' := w.alloc (.cells cs.toArray t)) (fun a _ => ?_) hK
 cases hi : P.info? t with
 | none => simp [hi] at hz
 | some i =>
  cases hzz : i.zero with
  | none => simp [hi, hzz] at hz
  | some z =>
   have hc : z.cells = cs.toArray := by simpa [hi, hzz] using hz
   simp [execOp, ho, Instr.alloc, zeroValue, typeInfo, hi, hzz, newVar, newRow, newObj, Sem.run, hc]
def evParts (σ : Env) : List (Nat × Operand) → Option (List (Nat × Value))
 | [] => some []
 | p :: r => match ev σ p.2 with
  | none => none
  | some v => match evParts σ r with
   | none => none
   | some vs => some ((p.1, v) :: vs)
theorem Fr.parts {a : Act} (h : Fr n σ a) : ∀ {ps : List (Nat × Operand)} {vs : List (Nat × Value)}, evParts σ ps = some vs → (ps.map fun (i, x) => (i, a.eval x)) = vs
 | [], vs, hv => by simp [evParts] at hv; subst hv; rfl
 | p :: r, vs, hv => by
  simp only [evParts] at hv
  cases hx : ev σ p.2 with
  | none => simp [hx] at hv
  | some v =>
   cases hr : evParts σ r with
   | none => simp [hx, hr] at hv
   | some us =>
    simp only [hx, hr, Option.some.injEq] at hv
    subst hv
    simp [h.eval hx, h.parts hr]
theorem val_build {t : TypeId} {ps : Array (Nat × Operand)} {vs : List (Nat × Value)} (cells : List Value) (ho : o.op = .build t ps) (hv : evParts σ ps.toList = some vs) (hb : P.built t vs = some cells.toArray) (w : World) : Val P n σ o w (.agg cells.toArray) := by
 intro a ha
 have he := map_eq_toArray (ha.parts hv)
 simp only [execOp, ho]
 rw [he, Sem.run_bind, run_build w t vs.toArray cells.toArray (by simpa using hb)]
 rfl
def sliceCells (P : Program) (t len : Nat) (parts : List (Nat × Value)) : Option (TypeId × Array Value) :=
 match P.underlying t with
 | some (.slice e) => match P.info? e with
  | some i => if len * i.size > 2 ^ 24 then none else
   if len * i.size = 0 then (Instr.fill (fun j => some (j * i.size, i.size)) ((Array.range (len * i.size)).map fun x => ((#[] : Array Value)[x % 0]!)) parts).map fun c => (e, c)
   else match i.zero with
    | some z => (Instr.fill (fun j => some (j * i.size, i.size)) ((Array.range (len * i.size)).map fun x => (z.cells[x % z.cells.size]!)) parts).map fun c => (e, c)
    | none => none
  | none => none
 | _ => none
theorem opTo_buildSlice {t len : Nat} {ps : Array (Nat × Operand)} {vs : List (Nat × Value)} (e : TypeId) (cells : List Value) {K : Value → World → Prop} (ho : o.op = .buildSlice t len ps) (hv : evParts σ ps.toList = some vs)
  (hb : sliceCells P t len vs = some (e, cells.toArray)) (hK : K (.slice (some ⟨w.heap.size, 0, none⟩) len len) (w.alloc (.cells cells.toArray e))) : OpTo P n σ o w K := by
 refine opTo_run (w' := w.alloc (.cells cells.toArray e)) (fun a ha => ?_) hK
 have he := map_eq_toArray (ha.parts hv)
 simp only [execOp, ho]
 rw [he]
 unfold sliceCells at hb
 split at hb
 ·rename_i e' hu
  split at hb
  ·rename_i i hi
   split at hb
   ·cases hb
   ·rename_i hle
    split at hb
    ·rename_i h0
     simp only [Option.map_eq_some_iff, Prod.mk.injEq] at hb
     obtain ⟨c, hc, rfl, rfl⟩ := hb
     simp only [Instr.buildSlice, Sem.run_bind, run_underlying hu, Result.andThen_ok, sizeOf, typeInfo, Sem.run_pure]
     simp [program, Sem.run, hi, h0, newRow, newObj] at hc ⊢
     simp [hc, Sem.run]
    ·rename_i h0
     split at hb
     ·rename_i z hz
      simp only [Option.map_eq_some_iff, Prod.mk.injEq] at hb
      obtain ⟨c, hc, rfl, rfl⟩ := hb
      simp [Instr.buildSlice, run_underlying hu, sizeOf, typeInfo, zeroValue, hi, hle, h0, hz, hc, newRow, newObj, Sem.run]
     ·cases hb
  ·cases hb
 ·cases hb
def callable (P : Program) (g : Nat) : Bool :=
 match P.funcs[g]? with
 | some fn => !(fn.name == "runtime.NumGoroutine") && fn.body.isSome
 | none => false
theorem opTo_call {c : Call} {x : Operand} {g : Nat} {fst vs cap : List Value} {K : Value → World → Prop} (ho : o.op = .call c) (hc : c.callee = .value x) (hx : ev σ x = some (.func (.func g) fst.toArray cap.toArray)) (hv : evs σ c.args.toList = some vs)
  (hg : callable P g = true) (hK : Ret P g (fst ++ vs ++ cap) w K) : OpTo P n σ o w K := fun a ha next Q hn => by
 have hargs := map_eq_toArray (ha.evals hv)
 have hrun : (execOp a.eval o).run P w = .ok (.enter g (fst ++ vs ++ cap).toArray) w := by
  unfold callable at hg
  split at hg
  ·rename_i fn hfn
   simp only [Bool.and_eq_true, Bool.not_eq_true'] at hg
   have hbody : ¬ fn.body = none := by
    intro hb
    simp [hb] at hg
   have hname : ¬ fn.name = "runtime.NumGoroutine" := by simpa using hg.1
   simp [execOp, ho, resolve, hc, hargs, ha.eval hx, Deferred.ofValue, invoke, callFunc, hfn, hname, hbody]
  ·cases hg
 simp only [Oper.wp, hrun, Oper.upon]
 refine Calls.mono hK fun e w' he => ?_
 obtain ⟨v, rfl, hv⟩ := he
 exact hn v w' hv
theorem opE_call {c : Call} {x : Operand} {g : Nat} {fst vs cap : List Value} {K Kp : Value → World → Prop} (ho : o.op = .call c) (hc : c.callee = .value x) (hx : ev σ x = some (.func (.func g) fst.toArray cap.toArray)) (hv : evs σ c.args.toList = some vs)
  (hg : callable P g = true) (hK : End P g (fst ++ vs ++ cap) w K Kp) : OpE P n σ o w K Kp := fun a ha next Q hn hp => by
 have hargs := map_eq_toArray (ha.evals hv)
 have hrun : (execOp a.eval o).run P w = .ok (.enter g (fst ++ vs ++ cap).toArray) w := by
  unfold callable at hg
  split at hg
  ·rename_i fn hfn
   simp only [Bool.and_eq_true, Bool.not_eq_true'] at hg
   have hbody : ¬ fn.body = none := by
    intro hb
    simp [hb] at hg
   have hname : ¬ fn.name = "runtime.NumGoroutine" := by simpa using hg.1
   simp [execOp, ho, resolve, hc, hargs, ha.eval hx, Deferred.ofValue, invoke, callFunc, hfn, hname, hbody]
  ·cases hg
 simp only [Oper.wp, hrun, Oper.upon]
 refine Calls.mono hK fun e w' he => ?_
 rcases he with ⟨v, rfl, hv⟩ | ⟨v, rfl, hv⟩
 ·exact hn v w' hv
 ·exact hp v w' hv
end
structure Bx (p : Prop) : Prop where
 out : p
theorem au {G X : Prop} (x : X) (h : Bx X → G := by (intro z; (repeat (first | refine pl_pure hT rfl rfl rfl ?_ | refine pl_nil ?_ | refine rn_seq ?_ | refine rn_plain ?_ | refine rn_block ?_ | refine rn_inBlock ?_ | refine rn_skip ?_ | refine rn_true rfl ?_ | refine rn_false rfl ?_ | refine rn_exit rfl ?_ | refine pl_not rfl rfl ?_)); exact z.out)) : G := h ⟨x⟩
theorem auj {G X : Prop} (x : X) (h : Bx X → G := by (intro z; (repeat (first | refine pl_pure hT rfl rfl rfl ?_ | refine pl_not rfl rfl ?_ | refine pl_nil ?_ | refine rn_inBlock ?_ | refine rn_skip ?_ | refine rn_true rfl ?_ | refine rn_false rfl ?_ | refine rn_exit rfl ?_)); exact z.out)) : G := h ⟨x⟩
theorem aub {G X : Prop} (x : X) (h : Bx X → G := by (intro z; (repeat (first | refine pl_pure hT rfl rfl rfl ?_ | refine pl_nil ?_ | refine rn_seq ?_ | refine rn_plain ?_ | refine rn_block ?_ | refine rn_inBlock ?_ | refine rn_skip ?_ | refine rn_true rfl ?_ | refine rn_false rfl ?_ | refine rn_exit rfl ?_ | refine pl_not rfl rfl ?_ | refine pl_val _ rfl rfl (val_load1 hT rfl rfl rfl (Blk.cell (by assumption) (by rfl))) ?_ | refine pl_yes rfl rfl rfl rfl rfl (by first | (simp only [cmpP]; omega) | (simp [cmpP]; done) | (simp [cmpP]; omega)) ?_ | refine pl_no rfl rfl rfl rfl rfl rfl (by first | (simp only [cmpP]; omega) | (simp [cmpP]; done) | (simp [cmpP]; omega)) ?_)); exact z.out)) : G := h ⟨x⟩
theorem ye {G X : Prop} (x : X) (h : Bx X → G := by (intro z; (repeat (first | refine pl_pure hT rfl rfl rfl ?_ | refine pl_nil ?_ | refine rn_seq ?_ | refine rn_plain ?_ | refine rn_block ?_ | refine rn_inBlock ?_ | refine rn_skip ?_ | refine rn_true rfl ?_ | refine rn_false rfl ?_ | refine rn_exit rfl ?_ | refine pl_not rfl rfl ?_)); refine pl_yes rfl rfl rfl rfl rfl (by first | (simp only [cmpP]; omega) | (simp [cmpP]; done) | (simp [cmpP]; omega)) ?_; exact z.out)) : G := h ⟨x⟩
theorem nay {G X : Prop} (x : X) (h : Bx X → G := by (intro z; (repeat (first | refine pl_pure hT rfl rfl rfl ?_ | refine pl_nil ?_ | refine rn_seq ?_ | refine rn_plain ?_ | refine rn_block ?_ | refine rn_inBlock ?_ | refine rn_skip ?_ | refine rn_true rfl ?_ | refine rn_false rfl ?_ | refine rn_exit rfl ?_ | refine pl_not rfl rfl ?_)); refine pl_no rfl rfl rfl rfl rfl rfl (by first | (simp only [cmpP]; omega) | (simp [cmpP]; done) | (simp [cmpP]; omega)) ?_; exact z.out)) : G := h ⟨x⟩
def Tg (_ : Nat) (p : Prop) : Prop := p
section
variable {P : Program} {T : Tbl} {n f fuel m i : Nat} {ops : Array Oper} {k : List Item} {R : Post} {S : World → Prop} {T' : List Nat} {σ : Env} {o : Oper} {w : World} {v : Value}
theorem tg_id {p : Prop} : Tg i (p → p) := id
theorem tg_pure (hT : T.check P = true) (ho : ops[i]? = some o) (hk : takeOk ops m i = true) (hg : guardOf ops σ o.guard = some true) (hv : pureOp T σ o.op = some v) (hd : dstOk n o.dst = true) :
  Tg i (Dr P f n ops k R S T' fuel (m ||| 2 ^ i) (put σ o.dst v) w → Dr P f n ops k R S T' (fuel + 1) m σ w) := fun h => dr_pure i hT ho hk hg hv hd h
theorem tg_not (ho : ops[i]? = some o) (hk : takeOk ops m i = true) (hg : guardOf ops σ o.guard = some false) (hd : dstOk n o.dst = true) :
  Tg i (Dr P f n ops k R S T' fuel (m ||| 2 ^ i) (put σ o.dst undef) w → Dr P f n ops k R S T' (fuel + 1) m σ w) := fun h => dr_not i ho hk hg hd h
theorem tg_val (ho : ops[i]? = some o) (hk : (takeOk ops m i && waitsFor ops T' i) = true) (hg : guardOf ops σ o.guard = some true) (hd : dstOk n o.dst = true) (hv : ∀ w, S w → Val P n σ o w v) (hS : S w) :
  Tg i (Dr P f n ops k R S T' fuel (m ||| 2 ^ i) (put σ o.dst v) w → Dr P f n ops k R S T' (fuel + 1) m σ w) := fun h => dr_val i v ho hk hg hd hv hS h
end
theorem tk {G X : Prop} (i : Nat) (x : X) (h : Tg i (X → G) := by exact tg_pure hT rfl (by decide +kernel) rfl rfl rfl) : G := h x
theorem dp {G X : Prop} (i : Nat) (x : X) (h : Tg i (X → G) := by (first | exact tg_pure hT rfl (by decide +kernel) rfl rfl rfl | exact tg_not rfl (by decide +kernel) rfl rfl | exact tg_val rfl (by decide +kernel) rfl rfl (fun w9 hS9 => val_load1 hT rfl rfl rfl (Blk.cell hS9.2 (by rfl))) hS | exact tg_yes rfl (by decide +kernel) rfl rfl rfl rfl rfl (by first | (simp only [cmpP]; omega) | (simp [cmpP]; done) | (simp [cmpP]; omega)) | exact tg_no rfl (by decide +kernel) rfl rfl rfl rfl rfl rfl (by first | (simp only [cmpP]; omega) | (simp [cmpP]; done) | (simp [cmpP]; omega)) | exact tg_id)) : G := h x
theorem dye {G X : Prop} (i : Nat) (x : X) (h : Tg i (X → G) := by exact tg_yes rfl (by decide +kernel) rfl rfl rfl rfl rfl (by first | (simp only [cmpP]; omega) | (simp [cmpP]; done) | (simp [cmpP]; omega))) : G := h x
theorem dno {G X : Prop} (i : Nat) (x : X) (h : Tg i (X → G) := by exact tg_no rfl (by decide +kernel) rfl rfl rfl rfl rfl rfl (by first | (simp only [cmpP]; omega) | (simp [cmpP]; done) | (simp [cmpP]; omega))) : G := h x
structure Iv {T : Type} (i : T) : Prop where
 out : True
section
variable {P : Program} {n f fuel m i : Nat} {ops : Array Oper} {k : List Item} {R : Post} {S : World → Prop} {T' : List Nat} {σ : Env} {o : Oper} {w : World} {l : List Oper} {c : Call} {x : Operand} {g : Nat} {vs : List Value} {Q : Value → World → Prop}
theorem pl_oc (hg : guardOf ops σ o.guard = some true) (hd : dstOk n o.dst = true) (ho : o.op = .call c) (hc : c.callee = .value x) (hx : ev σ x = some (.func (.func g) [].toArray [].toArray)) (hv : evs σ c.args.toList = some vs) (hk : callable P g = true) (r : Ret P g ([] ++ vs ++ []) w Q)
  (h : ∀ v w', Q v w' → Pl P f n ops k R l (put σ o.dst v) w') : Pl P f n ops k R (o :: l) σ w := pl_op hg hd (opTo_call (fst := []) (cap := []) ho hc hx hv hk (r.mono h))
theorem dr_oc (_ : Iv i) (hi : ops[i]? = some o) (hr : Region.ready .any ops (bits ops.size m) = [i]) (hg : guardOf ops σ o.guard = some true) (hd : dstOk n o.dst = true) (ho : o.op = .call c) (hc : c.callee = .value x) (hx : ev σ x = some (.func (.func g) [].toArray [].toArray)) (hv : evs σ c.args.toList = some vs) (hk : callable P g = true) (r : Ret P g ([] ++ vs ++ []) w Q)
  (h : ∀ v w', Q v w' → (i ∉ T' → S w') ∧ Dr P f n ops k R S T' fuel (m ||| 2 ^ i) (put σ o.dst v) w') : Dr P f n ops k R S T' (fuel + 1) m σ w := dr_op i hi hr hg hd (opTo_call (fst := []) (cap := []) ho hc hx hv hk (r.mono h))
end
theorem oC {G X Y : Prop} (r : Y) (x : X) (h : Y → Bx X → G := by (intro r z; (repeat (first | refine pl_pure hT rfl rfl rfl ?_ | refine pl_nil ?_ | refine rn_seq ?_ | refine rn_plain ?_ | refine rn_block ?_ | refine rn_inBlock ?_ | refine rn_skip ?_ | refine rn_true rfl ?_ | refine rn_false rfl ?_ | refine rn_exit rfl ?_ | refine pl_not rfl rfl ?_)); refine pl_oc rfl rfl rfl rfl rfl rfl (by decide +kernel) r ?_; exact z.out)) : G := h r ⟨x⟩
theorem dC {G X Y : Prop} (i : Nat) (r : Y) (x : X) (h : Iv i → Y → Bx X → G := by (intro q r z; refine dr_oc q rfl (by decide +kernel) rfl rfl rfl rfl rfl rfl (by decide +kernel) r ?_; exact z.out)) : G := h ⟨trivial⟩ r ⟨x⟩
theorem lB {G X Y : Prop} (b : Y) (x : X) (h : Y → Bx X → G := by (intro b z; (repeat (first | refine pl_pure hT rfl rfl rfl ?_ | refine pl_nil ?_ | refine rn_seq ?_ | refine rn_plain ?_ | refine rn_block ?_ | refine rn_inBlock ?_ | refine rn_skip ?_ | refine rn_true rfl ?_ | refine rn_false rfl ?_ | refine rn_exit rfl ?_ | refine pl_not rfl rfl ?_)); refine pl_val _ rfl rfl (val_load1 hT rfl rfl rfl (Blk.cell b rfl)) ?_; exact z.out)) : G := h b ⟨x⟩
theorem nM {G X : Prop} (v : Int) (x : X) (h : Iv v → Bx X → G := by (intro q z; (repeat (first | refine pl_pure hT rfl rfl rfl ?_ | refine pl_nil ?_ | refine rn_seq ?_ | refine rn_plain ?_ | refine rn_block ?_ | refine rn_inBlock ?_ | refine rn_skip ?_ | refine rn_true rfl ?_ | refine rn_false rfl ?_ | refine rn_exit rfl ?_ | refine pl_not rfl rfl ?_)); refine pl_nv q rfl rfl rfl rfl rfl (by simp only [ariP]; omega) ?_; exact z.out)) : G := h ⟨trivial⟩ ⟨x⟩
end
section
structure Keep (fp : List Nat) (w w' : World) : Prop where
 os : w'.os = w.os
 tape : w'.tape = w.tape
 output : w'.output = w.output
 size : w.heap.size ≤ w'.heap.size
 block : ∀ k, k < w.heap.size → k ∉ fp → w'.heap[k]? = w.heap[k]?
section
variable {fp fp' : List Nat} {w w' w'' : World}
theorem Keep.refl (fp : List Nat) (w : World) : Keep fp w w := ⟨rfl, rfl, rfl, Nat.le_refl _, fun _ _ _ => rfl⟩
theorem Keep.trans (h : Keep fp w w') (h' : Keep fp' w' w'') (hf : ∀ k ∈ fp', k ∈ fp ∨ w.heap.size ≤ k) : Keep fp w w'' :=
 ⟨h'.os.trans h.os, h'.tape.trans h.tape, h'.output.trans h.output, Nat.le_trans h.size h'.size, fun k hk hn =>
  (h'.block k (Nat.lt_of_lt_of_le hk h.size) (fun hm => (hf k hm).elim hn fun h1 => absurd hk (Nat.not_lt.2 h1))).trans (h.block k hk hn)⟩
theorem Keep.tr (h : Keep fp w w') (h' : Keep fp w' w'') : Keep fp w w'' := h.trans h' fun _ hk => .inl hk
theorem Keep.tr0 (h : Keep fp w w') (h' : Keep [] w' w'') : Keep fp w w'' := h.trans h' fun _ hk => by cases hk
theorem Keep.mono (h : Keep fp w w') (hf : ∀ k ∈ fp, k ∈ fp' ∨ w.heap.size ≤ k) : Keep fp' w w' := (Keep.refl fp' w).trans h hf
theorem Keep.of0 (h : Keep [] w w') : Keep fp w w' := h.mono fun _ hk => by cases hk
theorem Keep.drew (h : Keep fp w w') : Keep fp w w'.drew := ⟨h.os, h.tape, h.output, h.size, h.block⟩
theorem Keep.alloc (h : Keep fp w w') (ob : Obj) : Keep fp w (w'.alloc ob) :=
 ⟨h.os, h.tape, h.output, by rw [World.size_alloc]; exact Nat.le_succ_of_le h.size, fun k hk hn => (heap_alloc_old w' ob k (Nat.lt_of_lt_of_le hk h.size)).trans (h.block k hk hn)⟩
theorem setRow_size (w : World) (b : Nat) (X : Array Value) : (w.setRow b X).heap.size = w.heap.size := by simp [World.setRow]
theorem Keep.setRow (h : Keep fp w w') (b : Nat) (X : Array Value) (hb : b ∈ fp ∨ w.heap.size ≤ b) : Keep fp w (w'.setRow b X) :=
 ⟨h.os, h.tape, h.output, by rw [setRow_size]; exact h.size, fun k hk hn => by
  have hne : k ≠ b := fun e => hb.elim (fun h1 => hn (e ▸ h1)) fun h1 => absurd hk (Nat.not_lt.2 (e ▸ h1))
  rw [setRow_other _ b k X hne]; exact h.block k hk hn⟩
theorem Keep.grown {row : Option Nat} (h : Keep fp w w') (hg : w'.grownBy w'' row) (hr : ∀ k, row = some k → k ∈ fp ∨ w.heap.size ≤ k) : Keep fp w w'' :=
 ⟨hg.os.trans h.os, hg.tape.trans h.tape, hg.output.trans h.output, Nat.le_trans h.size hg.size, fun k hk hn =>
  (hg.block k (Nat.lt_of_lt_of_le hk h.size) (fun e => (hr k e.symm).elim hn fun h1 => absurd hk (Nat.not_lt.2 h1))).trans (h.block k hk hn)⟩
theorem Keep.blk (h : Keep fp w w') {b : Nat} {L : List Value} {e : TypeId} (hb : Blk w b L e) (hn : b ∉ fp) : Blk w' b L e := (h.block b hb.lt hn).trans hb
theorem Keep.owns (h : Keep fp w w') {base e size n : Nat} {v : Value} {xs : List Value} (ho : w.ownsRow base e size v n xs) (hn : ∀ k, v.ownBlock = some k → k ∉ fp) : w'.ownsRow base e size v n xs := by
 refine ⟨ho.1, ?_⟩
 rcases ho.2 with h0 | ⟨g, cap, cur, rfl, hb, hg, r⟩
 ·exact .inl h0
 ·refine .inr ⟨g, cap, cur, rfl, hb, ?_, r⟩
  rw [h.block g (Array.getElem?_eq_some_iff.1 hg).1 (hn g rfl)]
  exact hg
theorem Keep.below (h : Keep fp w w') (hf : ∀ k ∈ fp, w.heap.size ≤ k) : Go.RowKit.Below w.heap.size w w' :=
 ⟨h.os, h.tape, h.output, h.size, fun k hk => h.block k hk fun hm => by have := hf k hm; omega⟩
end
theorem owns_range {w : World} {base e size n g cap q : Nat} {xs cs : List Value} (h : w.ownsRow base e size (.slice (some ⟨g, 0, none⟩) n cap) n xs) (hc : (xs.drop q).take cs.length = cs) : w.rangeAt g q cs := fun j u hu => by
 rw [← hc, List.getElem?_take] at hu
 split at hu
 ·have := h.cells (g := g) rfl (q + j) u (by simpa using hu)
  rwa [Addr.add_mid, Nat.zero_add] at this
 ·cases hu
theorem flat_at {α : Type} {f : α → List Value} {k : Nat} : ∀ {L : List α} {j : Nat} {p : α}, (∀ p ∈ L, (f p).length = k) → L[j]? = some p → ((L.flatMap f).drop (j * k)).take k = f p
 | [], _, _, _, h => by simp at h
 | a :: r, 0, p, hk, h => by
  simp at h
  subst h
  have := hk a (by simp)
  simp [← this]
 | a :: r, j + 1, p, hk, h => by
  simp only [List.getElem?_cons_succ] at h
  have ha := hk a (by simp)
  have ih := flat_at (f := f) (k := k) (fun p hp => hk p (List.mem_cons_of_mem _ hp)) h
  rw [List.flatMap_cons, Nat.succ_mul, Nat.add_comm, ← List.drop_drop]
  rw [← ha, List.drop_left, ha]
  exact ih
theorem flat_length {α : Type} {f : α → List Value} {k : Nat} : ∀ {L : List α}, (∀ p ∈ L, (f p).length = k) → (L.flatMap f).length = L.length * k
 | [], _ => by simp
 | a :: r, hk => by
  rw [List.flatMap_cons, List.length_append, hk a (by simp), flat_length fun p hp => hk p (List.mem_cons_of_mem _ hp), List.length_cons, Nat.succ_mul]
  omega
def appOk (P : Program) (t e size bytes : Nat) : Bool :=
 match P.underlying t with
 | some (.slice e') => e' == e && (match P.info? e with
  | some i => i.size == size && i.bytes == bytes && (match i.zero with | some z => z.cells.size == size | none => false)
  | none => false)
 | _ => false
theorem appOk_run {P : Program} {t e size bytes : Nat} (h : appOk P t e size bytes = true) :
  ∃ i z, P.underlying t = some (.slice e) ∧ P.info? e = some i ∧ i.zero = some z ∧ i.size = size ∧ i.bytes = bytes ∧ z.cells.size = size := by
 unfold appOk at h
 split at h
 ·rename_i e' hu
  simp only [Bool.and_eq_true, beq_iff_eq] at h
  obtain ⟨rfl, h⟩ := h
  split at h
  ·rename_i i hi
   simp only [Bool.and_eq_true, beq_iff_eq] at h
   obtain ⟨⟨h1, h2⟩, h3⟩ := h
   split at h3
   ·rename_i z hz
    exact ⟨i, z, hu, hi, hz, h1, h2, by simpa using h3⟩
   ·cases h3
  ·cases h
 ·cases h
theorem opTo_append {P : Program} {n : Nat} {σ : Env} {o : Oper} {w : World} {v : Value} {t : TypeId} {s x : Operand} {b q m c ln : Nat} {K : Value → World → Prop} (base e size bytes : Nat) (xs news : List Value)
  (ho : o.op = .call { callee := .builtin .append, args := #[s, x], argTypes := #[t, t] }) (hs : ev σ s = some v) (hx : ev σ x = some (.slice (some ⟨b, q, none⟩) m c))
  (hP : appOk P t e size bytes = true) (hsz : 0 < size) (hown : w.ownsRow base e size v ln xs) (hnews : w.rangeAt b q news) (hl : news.length = m * size) (h1 : ∀ u ∈ news, u.oneCell' = true)
  (hm : 0 < m) (h63 : ln + m ≤ maxLen) (hbytes : (ln + m) * bytes ≤ 140737488355328) (hbase : base ≤ w.heap.size)
  (hK : ∀ g cap w', w'.ownsRow base e size (.slice (some ⟨g, 0, none⟩) (ln + m) cap) (ln + m) (xs ++ news) → w.grownBy w' v.ownBlock → (v.ownBlock = some g ∨ g = w.heap.size) → g < w'.heap.size → K (.slice (some ⟨g, 0, none⟩) (ln + m) cap) w') : OpTo P n σ o w K := by
 obtain ⟨i, z, hu, hi, hz, hsize, hby, hzs⟩ := appOk_run hP
 obtain ⟨g, cap, w', hr, h2, h3, h4, h5⟩ := run_append_lies (P := P) w t o.type base e i z size bytes hu hi hz hsize hby hzs hsz v ln xs hown ⟨b, q, none⟩ m c news hl (fun j u hj => by rw [Addr.add_mid]; exact hnews j u hj) h1 hm h63 hbytes hbase _ rfl
 refine opTo_run (w' := w') (v := .slice (some ⟨g, 0, none⟩) (ln + m) cap) (fun a ha => ?_) (hK g cap w' h2 h3 h4 h5)
 simp [execOp, ho, resolve, invoke, builtin, ha.eval hs, ha.eval hx, hr]
end
section
def ints (l : List Int) : List Value := l.map fun x => .int .i64 x
theorem ints_length (l : List Int) : (ints l).length = l.length := by simp [ints]
theorem ints_one (l : List Int) : ∀ u ∈ ints l, u.oneCell' = true := by
 intro u hu
 simp only [ints, List.mem_map] at hu
 obtain ⟨x, _, rfl⟩ := hu
 rfl
theorem list8 {l : List Int} (h : l.length = 8) : ∃ a b c d e f g i, l = [a, b, c, d, e, f, g, i] := by
 match l, h with
 | [a, b, c, d, e, f, g, i], _ => exact ⟨a, b, c, d, e, f, g, i, rfl⟩
def arrInt (P : Program) (t len : Nat) : Bool :=
 match P.underlying t with
 | some (.array l e) => l == len && (match P.underlying e with | some (.int _) => true | _ => false) && sizeOk P e 1 && !(P.eqGuardType P.depth t)
 | _ => false
theorem arrInt_spec {P : Program} {t len : Nat} (h : arrInt P t len = true) :
  ∃ e k i, P.underlying t = some (.array len e) ∧ P.underlying e = some (.int k) ∧ P.info? e = some i ∧ i.size = 1 ∧ P.eqGuardType P.depth t = false := by
 unfold arrInt at h
 split at h
 ·rename_i l e hu
  simp only [Bool.and_eq_true, beq_iff_eq, Bool.not_eq_true'] at h
  obtain ⟨⟨⟨rfl, h1⟩, h2⟩, h3⟩ := h
  split at h1
  ·rename_i k hk
   unfold sizeOk at h2
   split at h2
   ·rename_i i hi
    exact ⟨e, k, i, hu, hk, hi, by simpa using h2, h3⟩
   ·cases h2
  ·cases h1
 ·cases h
theorem part_ints {P : Program} {e : TypeId} {k : IntKind} {l : List Int} {j : Nat} {x : Int} (hu : P.underlying e = some (.int k)) (hx : l[j]? = some x) (w : World) : (part e (ints l).toArray j).run P w = .ok (.int .i64 x) w := by
 have hg : (ints l).toArray[j]? = some (.int .i64 x) := by simp [ints, hx]
 simp [part, isAgg, run_underlying hu, hg]
section
variable {P : Program} {T : Tbl} {n : Nat} {σ : Env} {o : Oper}
theorem val_at {t len : Nat} {x ix : Operand} {kk : IntKind} (xs : List Int) (j : Nat) {i c : Int} (h : arrInt P t len = true) (ho : o.op = .index t x ix) (hx : ev σ x = some (.agg (ints xs).toArray)) (hi : ev σ ix = some (.int kk i))
  (hij : i = (j : Int)) (hj : j < len) (hc : xs[j]? = some c) (w : World) : Val P n σ o w (.int .i64 c) := by
 intro a ha
 subst hij
 obtain ⟨e, k, inf, hu, hk, hinf, hs, _⟩ := arrInt_spec h
 have hsz : (sizeOf e).run P w = .ok 1 w := by simp [sizeOf, typeInfo, hinf, hs]
 simp [execOp, ho, ha.eval hx, ha.eval hi, Instr.index, asIntOf, run_underlying hu, hj, hsz, part_ints hk hc]
end
end
section
section
variable {P : Program} {T : Tbl} {n : Nat} {σ : Env} {o : Oper} {w : World} {v : Value}
theorem val_sliceTo {t : TypeId} {x hi : Operand} {a : Option Addr} {len cap sz : Nat} {k1 : IntKind} {i1 : Int} (h : Nat) (hT : T.check P = true) (ho : o.op = .slice t x none (some hi) none) (hx : ev σ x = some (.slice a len cap))
  (h1 : ev σ hi = some (.int k1 i1)) (ht : find T.sl t = some sz) (e1 : i1 = (h : Int)) (hm : h ≤ cap) (w : World) : Val P n σ o w (.slice a h cap) := by
 intro ac ha
 subst e1
 have hs := Tbl.sl_ok hT ht
 unfold slOk at hs
 split at hs
 ·rename_i e hu
  simp [execOp, ho, ha.eval hx, ha.eval h1, Instr.sliceAt, Instr.slice, Instr.sliceBounds, Instr.sliceBound, asIntOf, run_underlying hu, sizeOk_run hs, hm]
  cases a <;> simp [Addr.add]
 ·cases hs
theorem val_sliceArrFrom {t : TypeId} {x lo : Operand} {b q len sz : Nat} {k1 : IntKind} {i1 : Int} (l : Nat) (hT : T.check P = true) (ho : o.op = .slice t x (some lo) none none) (hx : ev σ x = some (.pointer (some ⟨b, q, none⟩)))
  (h1 : ev σ lo = some (.int k1 i1)) (ht : find T.ar t = some (len, sz)) (e1 : i1 = (l : Int)) (hm : l < len) (w : World) : Val P n σ o w (.slice (some ⟨b, q + l * sz, none⟩) (len - l) (len - l)) := by
 intro a ha
 subst e1
 have hs := Tbl.ar_ok hT ht
 unfold arOk at hs
 split at hs
 ·rename_i l' e hu
  simp only [Bool.and_eq_true, beq_iff_eq] at hs
  obtain ⟨rfl, hs⟩ := hs
  have hle : l ≤ l' := Nat.le_of_lt hm
  have hne : ¬ l' = l := by omega
  simp [execOp, ho, ha.eval hx, ha.eval h1, Instr.sliceAt, Instr.sliceBounds, Instr.sliceBound, asIntOf, Instr.sureAddr, run_underlying hu, sizeOk_run hs, hle, hne, Addr.add_mid]
 ·cases hs
def copyOk (P : Program) (t : Nat) : Bool :=
 match P.underlying t with
 | some (.slice e) => sizeOk P e 1
 | _ => false
theorem opTo_copy {t t' : TypeId} {x y : Operand} {b q dl dc b' q' sl sc : Nat} {L : List Value} {e : TypeId} {K : Value → World → Prop} (cs : List Value)
  (ho : o.op = .call { callee := .builtin .copy, args := #[x, y], argTypes := #[t, t'] }) (hx : ev σ x = some (.slice (some ⟨b, q, none⟩) dl dc)) (hy : ev σ y = some (.slice (some ⟨b', q', none⟩) sl sc))
  (hP : copyOk P t = true) (hb : Blk w b L e) (hn : cs.length = Nat.min sl dl) (hsrc : w.rangeAt b' q' cs) (hl : q + cs.length ≤ L.length) (h1 : ∀ u ∈ cs, u.oneCell' = true)
  (hK : ∀ r, K r (w.setRow b (splice L q cs).toArray)) : OpTo P n σ o w K := by
 unfold copyOk at hP
 split at hP
 ·rename_i el hu
  refine opTo_run (v := goInt cs.length) (w' := w.setRow b (splice L q cs).toArray) (fun a ha => ?_) (hK _)
  have hr := run_copy_row P w t t' o.type el b q dl dc ⟨b', q', none⟩ sl sc L.toArray e cs hu (sizeOk_info hP) hb hn (fun j u hj => by rw [Addr.add_mid]; exact hsrc j u hj) (by simpa using hl) h1
  have hr' : (Builtin.copy_ #[t, t'] o.type #[.slice (some ⟨b, q, none⟩) dl dc, .slice (some ⟨b', q', none⟩) sl sc]).run P w = .ok (goInt cs.length) (w.setRow b (splice L q cs).toArray) := by
   rw [hr]; simp [splice]
  simp [execOp, ho, resolve, invoke, builtin, ha.eval hx, ha.eval hy, hr']
 ·cases hP
def fieldOne (P : Program) (s f off : Nat) : Bool :=
 match P.underlying s with
 | some (.struct fs) => match fs[f]? with
  | some d => d.offset == off && oneOk P d.type
  | none => false
 | _ => false
def fieldAgg (P : Program) (s f off m : Nat) : Bool :=
 match P.underlying s with
 | some (.struct fs) => match fs[f]? with
  | some d => d.offset == off && agOk P d.type m
  | none => false
 | _ => false
theorem oneOk_isAgg {t : Nat} (hs : oneOk P t = true) (w : World) : (isAgg t).run P w = .ok false w := by
 unfold oneOk at hs
 cases hu : P.underlying t with
 | none => simp [hu] at hs
 | some d =>
  unfold isAgg
  rw [Sem.run_bind, run_underlying hu w]
  cases d <;> simp_all
theorem agOk_isAgg {t m : Nat} (hs : agOk P t m = true) (w : World) : (isAgg t).run P w = .ok true w ∧ sizeOk P t m = true := by
 unfold agOk at hs
 cases hu : P.underlying t with
 | none => simp [hu] at hs
 | some d =>
  unfold isAgg
  rw [Sem.run_bind, run_underlying hu w]
  cases d <;> simp_all
theorem val_field1 {s f : Nat} {x : Operand} (off : Nat) (cs : List Value) (ho : o.op = .field s x f) (hx : ev σ x = some (.agg cs.toArray)) (hP : fieldOne P s f off = true) (hv : cs[off]? = some v) (w : World) : Val P n σ o w v := by
 intro a ha
 unfold fieldOne at hP
 split at hP
 ·rename_i fs hu
  split at hP
  ·rename_i d hd
   simp only [Bool.and_eq_true, beq_iff_eq] at hP
   obtain ⟨rfl, hP⟩ := hP
   simp [execOp, ho, ha.eval hx, Instr.field, run_underlying hu, hd, asAgg, part, oneOk_isAgg hP, hv]
  ·cases hP
 ·cases hP
theorem val_fieldAgg {s f m : Nat} {x : Operand} (off : Nat) (cs ds : List Value) (ho : o.op = .field s x f) (hx : ev σ x = some (.agg cs.toArray)) (hP : fieldAgg P s f off m = true) (hv : (cs.drop off).take m = ds) (w : World) : Val P n σ o w (.agg ds.toArray) := by
 intro a ha
 unfold fieldAgg at hP
 split at hP
 ·rename_i fs hu
  split at hP
  ·rename_i d hd
   simp only [Bool.and_eq_true, beq_iff_eq] at hP
   obtain ⟨rfl, hP⟩ := hP
   have h1 := agOk_isAgg hP w
   simp [execOp, ho, ha.eval hx, Instr.field, run_underlying hu, hd, asAgg, part, h1.1, sizeOk_run h1.2, hv]
  ·cases hP
 ·cases hP
end
def isPtr (P : Program) (t : Nat) : Bool :=
 match P.underlying t with
 | some (.pointer _) => true
 | _ => false
theorem val_neNil {P : Program} {n : Nat} {σ : Env} {o : Oper} {t t' : Nat} {x : Operand} {ad : Addr} (h : isPtr P t = true) (ho : o.op = .binOp .neq t x (.const (.pointer none)) t') (hx : ev σ x = some (.pointer (some ad))) (w : World) : Val P n σ o w (.bool true) := by
 intro a ha
 unfold isPtr at h
 split at h
 ·rename_i e hu
  have he : ∀ d, (Op.equalIn (d + 1) t (.pointer (some ad)) (.pointer none)).run P w = .ok false w := fun d => by
   simp [Op.equalIn, run_underlying hu]
  have he' : (Op.equal t (.pointer (some ad)) (.pointer none)).run P w = .ok false w := he 9999
  have hc : a.eval (.const (.pointer none)) = .pointer none := rfl
  simp [execOp, ho, ha.eval hx, hc, eqGuard, binOp, he']
 ·cases h
theorem Blk.ne {w : World} {a b : Nat} {L L' : List Value} {e e' : TypeId} (h : Blk w a L e) (h' : Blk w b L' e') (hne : e ≠ e') : a ≠ b := fun hab => by
 subst hab
 unfold Blk at h h'
 rw [h] at h'
 simp at h'
 exact hne h'.2
end
section
section
variable {P : Program} {n : Nat} {σ : Env} {o : Oper}
def isStr (P : Program) (t : Nat) : Bool :=
 match P.underlying t with
 | some .string => true
 | _ => false
theorem isStr_spec {t : Nat} (h : isStr P t = true) : P.underlying t = some .string := by
 unfold isStr at h
 split at h
 ·rename_i hu; exact hu
 ·cases h
theorem val_strAt {t : Nat} {x ix : Operand} {kk : IntKind} (s : ByteArray) (j : Nat) (c : UInt8) {i : Int} (h : isStr P t = true) (ho : o.op = .index t x ix) (hx : ev σ x = some (.string s)) (hi : ev σ ix = some (.int kk i))
  (hij : i = (j : Int)) (hc : s[j]? = some c) (w : World) : Val P n σ o w (.int .u8 (c.toNat : Nat)) := by
 intro a ha
 subst hij
 simp [execOp, ho, ha.eval hx, ha.eval hi, Instr.index, asIntOf, run_underlying (isStr_spec h), hc]
theorem val_strLen {t : Nat} {x : Operand} (s : ByteArray) (h : isStr P t = true) (ho : o.op = .call { callee := .builtin .len, args := #[x], argTypes := #[t] }) (hx : ev σ x = some (.string s)) (w : World) : Val P n σ o w (.int .i64 (s.size : Nat)) := by
 intro a ha
 simp [execOp, ho, resolve, invoke, builtin, Builtin.len_, run_underlying (isStr_spec h), ha.eval hx, goInt]
theorem val_eqStr {t t' : Nat} {x y : Operand} (a b : ByteArray) (r : Bool) (ho : o.op = .binOp .eql t x y t') (hx : ev σ x = some (.string a)) (hy : ev σ y = some (.string b)) (hr : (a.toList == b.toList) = r) (w : World) : Val P n σ o w (.bool r) := by
 intro ac ha
 subst hr
 simp [execOp, ho, ha.eval hx, ha.eval hy, eqGuard, binOp, Op.stringOp]
theorem val_neStr {t t' : Nat} {x y : Operand} (a b : ByteArray) (r : Bool) (ho : o.op = .binOp .neq t x y t') (hx : ev σ x = some (.string a)) (hy : ev σ y = some (.string b)) (hr : (!(a.toList == b.toList)) = r) (w : World) : Val P n σ o w (.bool r) := by
 intro ac ha
 subst hr
 simp [execOp, ho, ha.eval hx, ha.eval hy, eqGuard, binOp, Op.stringOp]
end
end
section
def Own (w : World) (B e size : Nat) (v : Value) (n : Nat) (xs : List Value) : Prop :=
 xs.length = n * size ∧ ((v = .slice none 0 0 ∧ n = 0) ∨
  ∃ g cap cur, v = .slice (some ⟨g, 0, none⟩) n cap ∧ B ≤ g ∧ Blk w g cur e ∧ n ≤ cap ∧ cap * size ≤ cur.length ∧ cur.take (n * size) = xs)
def capOf : Value → Nat
 | .slice _ _ c => c
 | _ => 0
section
variable {w w' : World} {B e size n : Nat} {v : Value} {xs : List Value}
theorem Own.nil (w : World) (B e size : Nat) : Own w B e size (.slice none 0 0) 0 [] := ⟨by simp, .inl ⟨rfl, rfl⟩⟩
theorem Own.lt (h : Own w B e size v n xs) : ∀ k, v.ownBlock = some k → B ≤ k ∧ k < w.heap.size := by
 intro k hk
 rcases h.2 with ⟨rfl, _⟩ | ⟨g, cap, cur, rfl, hb, hg, _⟩
 ·simp [Value.ownBlock] at hk
 ·simp [Value.ownBlock] at hk
  subst hk
  exact ⟨hb, hg.lt⟩
theorem Own.keep {fp : List Nat} (h : Own w B e size v n xs) (hk : Keep fp w w') (hn : ∀ k, v.ownBlock = some k → k ∉ fp) : Own w' B e size v n xs := by
 refine ⟨h.1, ?_⟩
 rcases h.2 with h0 | ⟨g, cap, cur, rfl, hb, hg, r⟩
 ·exact .inl h0
 ·exact .inr ⟨g, cap, cur, rfl, hb, hk.blk hg (hn g rfl), r⟩
theorem Own.form (h : Own w B e size v n xs) : ∃ a cap, v = .slice a n cap := by
 rcases h.2 with ⟨h1, h2⟩ | ⟨g, cap, cur, h1, _⟩
 ·exact ⟨none, 0, by rw [h1, h2]⟩
 ·exact ⟨_, cap, h1⟩
theorem Own.range (h : Own w B e size v n xs) {q : Nat} {cs : List Value} (hc : (xs.drop q).take cs.length = cs) (h0 : 0 < n) : ∃ g cap, v = .slice (some ⟨g, 0, none⟩) n cap ∧ w.rangeAt g q cs := by
 rcases h.2 with ⟨_, h2⟩ | ⟨g, cap, cur, h1, _, hb, _, _, ht⟩
 ·omega
 ·refine ⟨g, cap, h1, fun j u hu => hb.cell ?_⟩
  rw [← hc, List.getElem?_take] at hu
  split at hu
  ·rw [List.getElem?_drop, ← ht, List.getElem?_take] at hu
   split at hu
   ·exact hu
   ·cases hu
  ·cases hu
theorem Own.cap_le (h : Own w B e size v n xs) : n ≤ capOf v := by
 rcases h.2 with ⟨_, h2⟩ | ⟨g, cap, cur, h1, _, _, hc, _⟩
 ·omega
 ·rw [h1]; exact hc
theorem keep_grown {w w' : World} {row : Option Nat} (hg : w.grownBy w' row) : Keep row.toList w w' := (Keep.refl _ _).grown hg fun k e => .inl (by simp [e])
end
theorem opTo_app {P : Program} {n : Nat} {σ : Env} {o : Oper} {w : World} {v : Value} {t : TypeId} {s x : Operand} {b q m c ln : Nat} {K : Value → World → Prop} (B e size bytes : Nat) (xs news : List Value)
  (ho : o.op = .call { callee := .builtin .append, args := #[s, x], argTypes := #[t, t] }) (hs : ev σ s = some v) (hx : ev σ x = some (.slice (some ⟨b, q, none⟩) m c))
  (hP : appOk P t e size bytes = true) (hown : Own w B e size v ln xs) (hnews : w.rangeAt b q news) (hl : news.length = m * size) (h1 : ∀ u ∈ news, u.oneCell' = true)
  (hm : 0 < m) (h63 : ln + m ≤ maxLen) (hbytes : (ln + m) * bytes ≤ 140737488355328) (hbase : B ≤ w.heap.size)
  (hK : ∀ g cap w', Own w' B e size (.slice (some ⟨g, 0, none⟩) (ln + m) cap) (ln + m) (xs ++ news) → ((v.ownBlock = some g ∧ ln + m ≤ capOf v ∧ Keep [g] w w') ∨ (g = w.heap.size ∧ Keep [] w w' ∧ w'.heap.size = w.heap.size + 1)) → K (.slice (some ⟨g, 0, none⟩) (ln + m) cap) w') : OpTo P n σ o w K := by
 obtain ⟨i, z, hu, hi, hz, hsize, hby, hzs⟩ := appOk_run hP
 subst hsize
 subst hby
 have hlen : (xs ++ news).length = (ln + m) * i.size := by rw [List.length_append, hown.1, hl, Nat.add_mul]
 have hnews' : ∀ j u, news[j]? = some u → w.cell? ((⟨b, q, none⟩ : Addr).add j) = some u := fun j u hj => by rw [Addr.add_mid]; exact hnews j u hj
 have h63' : ((ln + m : Nat) : Int) ≤ 9223372036854775807 := by simp only [maxLen] at h63; omega
 have key : ∀ v' w', (Builtin.append_ #[t, t] o.type #[v, .slice (some ⟨b, q, none⟩) m c]).run P w = .ok v' w' → K v' w' → OpTo P n σ o w K := fun v' w' hr hk =>
  opTo_run (w' := w') (v := v') (fun a ha => by simp [execOp, ho, resolve, invoke, builtin, ha.eval hs, ha.eval hx, hr]) hk
 have hnew : ∀ (old : Nat) (cur : Array Value), cur = xs.toArray ++ news.toArray ++ Builtin.zeroCells z.cells (grownCap w (ln + m) old e - (ln + m)) →
   Own (w.drew.alloc (.cells cur e)) B e i.size (.slice (some ⟨w.heap.size, 0, none⟩) (ln + m) (grownCap w (ln + m) old e)) (ln + m) (xs ++ news) ∧ Keep [] w (w.drew.alloc (.cells cur e)) := fun old cur hcur => by
  have hge := grownCap_ge w (ln + m) old e
  refine ⟨⟨hlen, .inr ⟨w.heap.size, _, cur.toList, rfl, hbase, ?_, hge, ?_, ?_⟩⟩, ((Keep.refl _ _).drew).alloc _⟩
  ·have := Blk.new w.drew cur.toList e
   rwa [Array.toArray_toList] at this
  ·rw [hcur]
   simp only [Array.toList_append, List.length_append, Array.length_toList, size_zeroCells, hzs, hown.1, hl, ← Nat.add_mul]
   rw [Nat.add_sub_cancel' hge]
   exact Nat.le_refl _
  ·rw [hcur]
   simp only [Array.toList_append]
   rw [← hlen]
   exact List.take_left
 rcases hown.2 with ⟨rfl, rfl⟩ | ⟨g, cap, cur, rfl, hbg, hg, hnc, hcs, htake⟩
 ·have hxs : xs = [] := List.eq_nil_of_length_eq_zero (by simpa using hown.1)
  subst hxs
  have hr := run_append_nil (P := P) w t o.type e i z hu hi hz ⟨b, q, none⟩ m c news hl hnews' hm (by omega) (by simp only [Nat.zero_add] at hbytes; omega)
  have hn := hnew 0 (news.toArray ++ Builtin.zeroCells z.cells (grownCap w m 0 e - m)) (by simp)
  simp only [Nat.zero_add] at hn hK
  exact key _ _ hr (hK _ _ _ hn.1 (.inr ⟨rfl, hn.2, World.size_alloc _ _⟩))
 ·by_cases hroom : ln + m ≤ cap
  ·have hfit : ln * i.size + news.length ≤ cur.toArray.size := by
    rw [hl, ← Nat.add_mul, List.size_toArray]
    exact Nat.le_trans (Nat.mul_le_mul_right _ hroom) hcs
   have hr := run_append_room (P := P) w t o.type e i hu hi g ln cap cur.toArray hg ⟨b, q, none⟩ m c news hl hnews' h1 hroom hfit
   refine key _ _ hr (hK _ _ _ ⟨hlen, .inr ⟨g, cap, _, rfl, hbg, hg.set _, hroom, ?_, ?_⟩⟩ (.inl ⟨rfl, hroom, (Keep.refl _ _).setRow _ _ (.inl (by simp))⟩))
   ·simp only [List.size_toArray] at hfit
    simp only [List.length_append, List.length_take, List.length_drop]
    omega
   ·rw [← hlen, htake]
    exact List.take_left
  ·have holds : ∀ j u, xs[j]? = some u → w.cell? ((⟨g, 0, none⟩ : Addr).add j) = some u := fun j u hj => by
    rw [Addr.add_mid, Nat.zero_add]
    refine hg.cell ?_
    rw [← htake, List.getElem?_take] at hj
    split at hj
    ·exact hj
    ·cases hj
   have hr := run_append_grow (P := P) w t o.type e i z hu hi hz ⟨g, 0, none⟩ ln cap xs hown.1 holds ⟨b, q, none⟩ m c news hl hnews' (by omega) h63' (growslice_fits (by omega) hbytes)
   have hn := hnew cap _ rfl
   exact key _ _ hr (hK _ _ _ hn.1 (.inr ⟨rfl, hn.2, World.size_alloc _ _⟩))
end
section
section
variable {P : Program} {T : Tbl} {n : Nat} {σ : Env} {o : Oper} {w : World}
theorem val_quo {t t' : TypeId} {x y : Operand} (k : IntKind) (a b r : Int) (ho : o.op = .binOp .quo t x y t') (hx : ev σ x = some (.int k a)) (hy : ev σ y = some (.int k b)) (hb : b ≠ 0)
  (hr : k.wrap (a.tdiv b) = r) (w : World) : Val P n σ o w (.int k r) := by
 intro ac ha
 subst hr
 simp [execOp, ho, ha.eval hx, ha.eval hy, eqGuard, binOp, Op.intDiv, hb]
theorem quo8 (k : Nat) (h : k < 1000000) : IntKind.i64.wrap (((k : Nat) : Int).tdiv 8) = ((k / 8 : Nat) : Int) := by
 have e : ((k : Nat) : Int).tdiv 8 = ((k / 8 : Nat) : Int) := by
  rw [Int.tdiv_eq_ediv_of_nonneg (by omega)]
  omega
 rw [e, wrap_i64 (by omega) (by omega)]
theorem val_eqNil {t t' : Nat} {x : Operand} {ad : Addr} (h : isPtr P t = true) (ho : o.op = .binOp .eql t x (.const (.pointer none)) t') (hx : ev σ x = some (.pointer (some ad))) (w : World) : Val P n σ o w (.bool false) := by
 intro a ha
 unfold isPtr at h
 split at h
 ·rename_i e hu
  have he : ∀ d, (Op.equalIn (d + 1) t (.pointer (some ad)) (.pointer none)).run P w = .ok false w := fun d => by
   simp [Op.equalIn, run_underlying hu]
  have he' : (Op.equal t (.pointer (some ad)) (.pointer none)).run P w = .ok false w := he 9999
  have hc : a.eval (.const (.pointer none)) = .pointer none := rfl
  simp [execOp, ho, ha.eval hx, hc, eqGuard, binOp, he']
 ·cases h
def arrBool (P : Program) (t len : Nat) : Bool :=
 match P.underlying t with
 | some (.array l e) => l == len && (match P.underlying e with | some .bool => true | _ => false) && sizeOk P e 1
 | _ => false
theorem val_atB {t len : Nat} {x ix : Operand} {kk : IntKind} (cs : List Value) (v : Value) (j : Nat) {i : Int} (h : arrBool P t len = true) (ho : o.op = .index t x ix) (hx : ev σ x = some (.agg cs.toArray)) (hi : ev σ ix = some (.int kk i))
  (hij : i = (j : Int)) (hj : j < len) (hc : cs[j]? = some v) (w : World) : Val P n σ o w v := by
 intro a ha
 subst hij
 unfold arrBool at h
 split at h
 ·rename_i l e hu
  simp only [Bool.and_eq_true, beq_iff_eq] at h
  obtain ⟨⟨rfl, h1⟩, h2⟩ := h
  split at h1
  ·rename_i hk
   have hg : cs.toArray[j]? = some v := by simpa using hc
   simp [execOp, ho, ha.eval hx, ha.eval hi, Instr.index, asIntOf, run_underlying hu, hj, sizeOk_run h2, part, isAgg, run_underlying hk]
   simp [hc]
  ·cases h1
 ·cases h
theorem opTo_make {t e : TypeId} {l c : Operand} {k1 k2 : IntKind} {K : Value → World → Prop} (len : Nat) (cells : List Value) (i : TypeInfo) (z : Value) (ho : o.op = .makeSlice t l c) (hl : ev σ l = some (.int k1 (len : Nat))) (hc : ev σ c = some (.int k2 (len : Nat)))
  (ht : P.underlying t = some (.slice e)) (hi : P.info? e = some i) (hz : i.zero = some z) (hb : (i.bytes : Int) * ((len : Nat) : Int) ≤ 281474976710656) (h63 : ((len : Nat) : Int) ≤ 9223372036854775807)
  (hcells : madeCells z.cells (len * i.size) = cells.toArray) (hK : K (.slice (some ⟨w.heap.size, 0, none⟩) len len) (w.alloc (.cells cells.toArray e))) : OpTo P n σ o w K := by
 refine opTo_run (w' := w.alloc (.cells cells.toArray e)) (v := .slice (some ⟨w.heap.size, 0, none⟩) len len) (fun a ha => ?_) hK
 have hr := run_make (P := P) w t e i z ht hi hz k1 k2 ((len : Nat) : Int) ((len : Nat) : Int) (by omega) (Int.le_refl _) hb h63
 simp only [Int.toNat_natCast] at hr
 rw [hcells] at hr
 simp [execOp, ho, ha.eval hl, ha.eval hc, hr]
end
end
section
def cmpP (op : BinOp) (a b : Int) : Prop :=
 match op with
 | .eql => a = b
 | .neq => a ≠ b
 | .lss => a < b
 | .leq => a ≤ b
 | .gtr => a > b
 | .geq => a ≥ b
 | _ => False
def cmpOk (op : BinOp) : Bool :=
 match op with
 | .eql | .neq | .lss | .leq | .gtr | .geq => true
 | _ => false
theorem intOp_yes {op : BinOp} {k : IntKind} {a b : Int} (h : cmpP op a b) : intOp op k a b = some (.bool true) := by
 cases op <;> simp_all [cmpP, intOp]
theorem intOp_no {op : BinOp} {k : IntKind} {a b : Int} (hk : cmpOk op = true) (h : ¬ cmpP op a b) : intOp op k a b = some (.bool false) := by
 cases op <;> simp_all [cmpP, cmpOk, intOp]
def ariP (op : BinOp) (a b v : Int) : Prop :=
 match op with
 | .add => v = a + b ∧ -9223372036854775808 ≤ a + b ∧ a + b < 9223372036854775808
 | .sub => v = a - b ∧ -9223372036854775808 ≤ a - b ∧ a - b < 9223372036854775808
 | _ => False
theorem intOp_num {op : BinOp} {a b v : Int} (h : ariP op a b v) : intOp op .i64 a b = some (.int .i64 v) := by
 cases op <;> simp only [ariP] at h
 ·obtain ⟨rfl, h1, h2⟩ := h
  simp only [intOp, wrap_i64 h1 h2]
 ·obtain ⟨rfl, h1, h2⟩ := h
  simp only [intOp, wrap_i64 h1 h2]
section
variable {P : Program} {f n : Nat} {ops : Array Oper} {k : List Item} {R : Post} {σ : Env} {w : World} {o : Oper} {l : List Oper} {op : BinOp} {t t' : TypeId} {x y : Operand} {kk : IntKind} {a b : Int}
theorem pl_yes (hg : guardOf ops σ o.guard = some true) (ho : o.op = .binOp op t x y t') (hx : ev σ x = some (.int kk a)) (hy : ev σ y = some (.int kk b)) (hd : dstOk n o.dst = true) (hc : cmpP op a b)
  (h : Pl P f n ops k R l (put σ o.dst (.bool true)) w) : Pl P f n ops k R (o :: l) σ w := pl_val _ hg hd (val_int kk a b _ ho hx hy (intOp_yes hc) w) h
theorem pl_no (hg : guardOf ops σ o.guard = some true) (ho : o.op = .binOp op t x y t') (hx : ev σ x = some (.int kk a)) (hy : ev σ y = some (.int kk b)) (hd : dstOk n o.dst = true) (hk : cmpOk op = true) (hc : ¬ cmpP op a b)
  (h : Pl P f n ops k R l (put σ o.dst (.bool false)) w) : Pl P f n ops k R (o :: l) σ w := pl_val _ hg hd (val_int kk a b _ ho hx hy (intOp_no hk hc) w) h
theorem pl_num (v : Int) (hg : guardOf ops σ o.guard = some true) (ho : o.op = .binOp op t x y t') (hx : ev σ x = some (.int .i64 a)) (hy : ev σ y = some (.int .i64 b)) (hd : dstOk n o.dst = true) (hc : ariP op a b v)
  (h : Pl P f n ops k R l (put σ o.dst (.int .i64 v)) w) : Pl P f n ops k R (o :: l) σ w := pl_val _ hg hd (val_int .i64 a b _ ho hx hy (intOp_num hc) w) h
theorem pl_nv {v : Int} (_ : Iv v) (hg : guardOf ops σ o.guard = some true) (ho : o.op = .binOp op t x y t') (hx : ev σ x = some (.int .i64 a)) (hy : ev σ y = some (.int .i64 b)) (hd : dstOk n o.dst = true) (hc : ariP op a b v)
  (h : Pl P f n ops k R l (put σ o.dst (.int .i64 v)) w) : Pl P f n ops k R (o :: l) σ w := pl_num v hg ho hx hy hd hc h
variable {S : World → Prop} {T : List Nat} {fuel m : Nat}
theorem dr_yes (i : Nat) (hi : ops[i]? = some o) (hk : takeOk ops m i = true) (hg : guardOf ops σ o.guard = some true) (ho : o.op = .binOp op t x y t') (hx : ev σ x = some (.int kk a)) (hy : ev σ y = some (.int kk b)) (hd : dstOk n o.dst = true) (hc : cmpP op a b)
  (h : Dr P f n ops k R S T fuel (m ||| 2 ^ i) (put σ o.dst (.bool true)) w) : Dr P f n ops k R S T (fuel + 1) m σ w := dr_any i _ hi hk hg hd (fun w => val_int kk a b _ ho hx hy (intOp_yes hc) w) h
theorem dr_no (i : Nat) (hi : ops[i]? = some o) (hk : takeOk ops m i = true) (hg : guardOf ops σ o.guard = some true) (ho : o.op = .binOp op t x y t') (hx : ev σ x = some (.int kk a)) (hy : ev σ y = some (.int kk b)) (hd : dstOk n o.dst = true) (hok : cmpOk op = true) (hc : ¬ cmpP op a b)
  (h : Dr P f n ops k R S T fuel (m ||| 2 ^ i) (put σ o.dst (.bool false)) w) : Dr P f n ops k R S T (fuel + 1) m σ w := dr_any i _ hi hk hg hd (fun w => val_int kk a b _ ho hx hy (intOp_no hok hc) w) h
theorem dr_num (i : Nat) (v : Int) (hi : ops[i]? = some o) (hk : takeOk ops m i = true) (hg : guardOf ops σ o.guard = some true) (ho : o.op = .binOp op t x y t') (hx : ev σ x = some (.int .i64 a)) (hy : ev σ y = some (.int .i64 b)) (hd : dstOk n o.dst = true) (hc : ariP op a b v)
  (h : Dr P f n ops k R S T fuel (m ||| 2 ^ i) (put σ o.dst (.int .i64 v)) w) : Dr P f n ops k R S T (fuel + 1) m σ w := dr_any i _ hi hk hg hd (fun w => val_int .i64 a b _ ho hx hy (intOp_num hc) w) h
theorem tg_yes {i : Nat} (hi : ops[i]? = some o) (hk : takeOk ops m i = true) (hg : guardOf ops σ o.guard = some true) (ho : o.op = .binOp op t x y t') (hx : ev σ x = some (.int kk a)) (hy : ev σ y = some (.int kk b)) (hd : dstOk n o.dst = true) (hc : cmpP op a b) :
  Tg i (Dr P f n ops k R S T fuel (m ||| 2 ^ i) (put σ o.dst (.bool true)) w → Dr P f n ops k R S T (fuel + 1) m σ w) := fun h => dr_yes i hi hk hg ho hx hy hd hc h
theorem tg_no {i : Nat} (hi : ops[i]? = some o) (hk : takeOk ops m i = true) (hg : guardOf ops σ o.guard = some true) (ho : o.op = .binOp op t x y t') (hx : ev σ x = some (.int kk a)) (hy : ev σ y = some (.int kk b)) (hd : dstOk n o.dst = true) (hok : cmpOk op = true) (hc : ¬ cmpP op a b) :
  Tg i (Dr P f n ops k R S T fuel (m ||| 2 ^ i) (put σ o.dst (.bool false)) w → Dr P f n ops k R S T (fuel + 1) m σ w) := fun h => dr_no i hi hk hg ho hx hy hd hok hc h
end
section
variable {P : Program} {n : Nat} {σ : Env} {o : Oper} {w : World} {v : Value} {K : Value → World → Prop}
theorem opTo_boxN {t : TypeId} {x : Operand} (cs : List Value) (ho : o.op = .box t x) (hx : ev σ x = some v) (hc : v.cells = cs.toArray)
  (hK : ∀ w1 b, b = w.heap.size → w1.heap.size = b + 1 → Keep [] w w1 → Blk w1 b cs t → K (.pointer (some ⟨b, 0, none⟩)) w1) : OpTo P n σ o w K :=
 opTo_box cs ho hx hc (hK _ _ rfl (World.size_alloc _ _) ((Keep.refl _ _).alloc _) (Blk.new _ _ _))
theorem opTo_allocN {t : TypeId} (cs : List Value) (ho : o.op = .alloc t) (hz : ((P.info? t).bind (·.zero)).map (·.cells) = some cs.toArray)
  (hK : ∀ w1 b, b = w.heap.size → w1.heap.size = b + 1 → Keep [] w w1 → Blk w1 b cs t → K (.pointer (some ⟨b, 0, none⟩)) w1) : OpTo P n σ o w K :=
 opTo_alloc cs ho hz (hK _ _ rfl (World.size_alloc _ _) ((Keep.refl _ _).alloc _) (Blk.new _ _ _))
theorem opTo_sliceN {t len : Nat} {ps : Array (Nat × Operand)} {vs : List (Nat × Value)} (e : TypeId) (cells : List Value) (ho : o.op = .buildSlice t len ps) (hv : evParts σ ps.toList = some vs)
  (hb : sliceCells P t len vs = some (e, cells.toArray)) (hK : ∀ w1 b, b = w.heap.size → w1.heap.size = b + 1 → Keep [] w w1 → Blk w1 b cells e → K (.slice (some ⟨b, 0, none⟩) len len) w1) : OpTo P n σ o w K :=
 opTo_buildSlice e cells ho hv hb (hK _ _ rfl (World.size_alloc _ _) ((Keep.refl _ _).alloc _) (Blk.new _ _ _))
theorem opTo_storeN {t : TypeId} {x y : Operand} {b i : Nat} {L : List Value} {e : TypeId} (cs : List Value) (ho : o.op = .store t x y) (hx : ev σ x = some (.pointer (some ⟨b, i, none⟩))) (hy : ev σ y = some v) (hc : v.cells = cs.toArray)
  (hz : sizeOk P t cs.length = true) (hb : Blk w b L e) (hl : i + cs.length ≤ L.length) (h1 : ∀ u ∈ cs, u.oneCell' = true)
  (hK : ∀ w1, w1.heap.size = w.heap.size → Keep [b] w w1 → Blk w1 b (splice L i cs) e → K undef w1) : OpTo P n σ o w K :=
 opTo_store cs ho hx hy hc hz hb hl h1 (hK _ (setRow_size _ _ _) ((Keep.refl _ _).setRow _ _ (.inl (by simp))) (hb.set _))
end
theorem Keep.trB {fp : List Nat} {w w' w'' : World} {b : Nat} (h : Keep fp w w') (h' : Keep [b] w' w'') (hb : w.heap.size ≤ b) : Keep fp w w'' :=
 h.trans h' fun k hk => .inr (by simp at hk; omega)
theorem blk_loadVar {P : Program} {T : Tbl} {w : World} {c : Nat} {L : List Value} {e t : TypeId} (hT : T.check P = true) (h : Blk w c L e) (ht : find T.ag t = some L.length) : (loadVar t ⟨c, 0, none⟩).run P w = .ok (.agg L.toArray) w :=
 loadVar_agg hT ht (h.range (by simp))
theorem splice_whole {L cs : List Value} (h : cs.length = L.length) : splice L 0 cs = cs := by
 simp [splice, h]
def In (F : Nat → Prop) (w : World) : Prop := ∀ k, F k → k < w.heap.size
section
variable {F : Nat → Prop} {w w' : World} {fp : List Nat}
theorem In.keep (h : In F w) (hk : Keep fp w w') : In F w' := fun k hF => Nat.lt_of_lt_of_le (h k hF) hk.size
end
theorem range_keep {w w' : World} {b q : Nat} {cs : List Value} {fp : List Nat} (h : w.rangeAt b q cs) (hk : Keep fp w w') (hb : b < w.heap.size) (hn : b ∉ fp) : w'.rangeAt b q cs := fun j v hv => by
 rw [World.cell?_of_block (w := w) (hk.block b hb hn)]
 exact h j v hv
end
section
section
variable {P : Program} {n : Nat} {σ : Env} {o : Oper}
theorem val_strCut {t : Nat} {x lo hi : Operand} {k1 k2 : IntKind} {i1 i2 : Int} (s : ByteArray) (l h : Nat) (ht : isStr P t = true) (ho : o.op = .slice t x (some lo) (some hi) none) (hx : ev σ x = some (.string s))
  (h1 : ev σ lo = some (.int k1 i1)) (h2 : ev σ hi = some (.int k2 i2)) (e1 : i1 = (l : Int)) (e2 : i2 = (h : Int)) (hl : l ≤ h) (hh : h ≤ s.size) (w : World) : Val P n σ o w (.string (s.extract l h)) := by
 intro ac ha
 subst e1; subst e2
 simp [execOp, ho, ha.eval hx, ha.eval h1, ha.eval h2, Instr.sliceAt, Instr.slice, Instr.sliceBounds, Instr.sliceBound, asIntOf, run_underlying (isStr_spec ht), hl, hh]
theorem val_strFrom {t : Nat} {x lo : Operand} {k1 : IntKind} {i1 : Int} (s : ByteArray) (l : Nat) (ht : isStr P t = true) (ho : o.op = .slice t x (some lo) none none) (hx : ev σ x = some (.string s))
  (h1 : ev σ lo = some (.int k1 i1)) (e1 : i1 = (l : Int)) (hl : l ≤ s.size) (w : World) : Val P n σ o w (.string (s.extract l s.size)) := by
 intro ac ha
 subst e1
 simp [execOp, ho, ha.eval hx, ha.eval h1, Instr.sliceAt, Instr.slice, Instr.sliceBounds, Instr.sliceBound, asIntOf, run_underlying (isStr_spec ht), hl]
theorem val_strTo {t : Nat} {x hi : Operand} {k2 : IntKind} {i2 : Int} (s : ByteArray) (h : Nat) (ht : isStr P t = true) (ho : o.op = .slice t x none (some hi) none) (hx : ev σ x = some (.string s))
  (h2 : ev σ hi = some (.int k2 i2)) (e2 : i2 = (h : Int)) (hh : h ≤ s.size) (w : World) : Val P n σ o w (.string (s.extract 0 h)) := by
 intro ac ha
 subst e2
 simp [execOp, ho, ha.eval hx, ha.eval h2, Instr.sliceAt, Instr.slice, Instr.sliceBounds, Instr.sliceBound, asIntOf, run_underlying (isStr_spec ht), hh]
theorem val_strAdd {t t' : Nat} {x y : Operand} (a b : ByteArray) (ho : o.op = .binOp .add t x y t') (hx : ev σ x = some (.string a)) (hy : ev σ y = some (.string b)) (hs : a.size + b.size ≤ 9223372036854775807) (w : World) : Val P n σ o w (.string (a ++ b)) := by
 intro ac ha
 simp only [execOp, ho, ha.eval hx, ha.eval hy, Sem.run_bind]
 simp [eqGuard, binOp, Op.stringOp]
 omega
theorem toList_extract (s : ByteArray) (l h : Nat) : (s.extract l h).data.toList = (s.data.toList.drop l).take (h - l) := by
 rw [ByteArray.data_extract, Array.toList_extract, List.extract_eq_drop_take']
 rw [List.drop_take]
theorem toList_add (a b : ByteArray) : (a ++ b).data.toList = a.data.toList ++ b.data.toList := by
 rw [ByteArray.data_append, Array.toList_append]
theorem size_toList (s : ByteArray) : s.data.toList.length = s.size := by
 rw [Array.length_toList]; rfl
def isIface (P : Program) (t : Nat) : Bool :=
 match P.underlying t with
 | some (.interface _) => true
 | _ => false
theorem isIface_spec {t : Nat} (h : isIface P t = true) : ∃ ms, P.underlying t = some (.interface ms) := by
 unfold isIface at h
 split at h
 ·rename_i ms hu; exact ⟨ms, hu⟩
 ·cases h
theorem eq_nil_nil {t : Nat} {ms : Array (String × TypeId)} (hu : P.underlying t = some (.interface ms)) (w : World) : (Op.equal t .nilIface .nilIface).run P w = .ok true w := by
 have e : ∀ d, (Op.equalIn (d + 1) t .nilIface .nilIface).run P w = .ok true w := by
  intro d
  simp [Op.equalIn, run_underlying hu]
 exact e 9999
theorem eq_some_nil {t : Nat} {ms : Array (String × TypeId)} (hu : P.underlying t = some (.interface ms)) (tp : TypeId) (v : Value) (w : World) : (Op.equal t (.iface tp v) .nilIface).run P w = .ok false w := by
 have e : ∀ d, (Op.equalIn (d + 1) t (.iface tp v) .nilIface).run P w = .ok false w := by
  intro d
  simp [Op.equalIn, run_underlying hu]
 exact e 9999
theorem val_errNil {t t' : Nat} {x : Operand} (h : isIface P t = true) (ho : o.op = .binOp .neq t x (.const .nilIface) t') (hx : ev σ x = some .nilIface) (w : World) : Val P n σ o w (.bool false) := by
 intro ac ha
 obtain ⟨ms, hu⟩ := isIface_spec h
 have e := eq_nil_nil hu w
 have hc : ac.eval (.const .nilIface) = .nilIface := ha.eval (x := .const .nilIface) rfl
 simp [execOp, ho, ha.eval hx, hc, eqGuard, binOp, e]
theorem val_errSome {t t' : Nat} {x : Operand} (tp : TypeId) (v : Value) (h : isIface P t = true) (ho : o.op = .binOp .neq t x (.const .nilIface) t') (hx : ev σ x = some (.iface tp v)) (w : World) : Val P n σ o w (.bool true) := by
 intro ac ha
 obtain ⟨ms, hu⟩ := isIface_spec h
 have e := eq_some_nil hu tp v w
 have hc : ac.eval (.const .nilIface) = .nilIface := ha.eval (x := .const .nilIface) rfl
 simp [execOp, ho, ha.eval hx, hc, eqGuard, binOp, e]
end
end
section
def str (l : List UInt8) : ByteArray := ⟨l.toArray⟩
theorem str_list (l : List UInt8) : (str l).data.toList = l := by simp [str]
theorem str_data (s : ByteArray) : str s.data.toList = s := by
 cases s
 simp [str]
theorem str_size (l : List UInt8) : (str l).size = l.length := by rw [← size_toList, str_list]
theorem str_of {s : ByteArray} {l : List UInt8} (h : s.data.toList = l) : s = str l := by rw [← h, str_data]
theorem str_get {l : List UInt8} {j : Nat} {c : UInt8} (h : l[j]? = some c) : (str l)[j]? = some c := by
 have hj := (List.getElem?_eq_some_iff.1 h).1
 have hs : j < (str l).size := by rw [str_size]; exact hj
 rw [getElem?_pos (str l) j hs]
 have e := (List.getElem?_eq_some_iff.1 h).2
 rw [← e]
 rfl
theorem str_cut (l : List UInt8) (a b : Nat) : (str l).extract a b = str ((l.drop a).take (b - a)) := str_of (by rw [toList_extract, str_list])
theorem str_from (l : List UInt8) (a : Nat) : (str l).extract a (str l).size = str (l.drop a) := by
 rw [str_cut, str_size]
 congr 1
 rw [List.take_of_length_le (by rw [List.length_drop]; exact Nat.le_refl _)]
theorem str_to (l : List UInt8) (b : Nat) : (str l).extract 0 b = str (l.take b) := by
 rw [str_cut]
 rfl
theorem str_add (a b : List UInt8) : str a ++ str b = str (a ++ b) := str_of (by rw [toList_add, str_list, str_list])
theorem str_toList (l : List UInt8) : (str l).toList = l := by
 simp [str]
section
variable {P : Program} {n : Nat} {σ : Env} {o : Oper}
theorem val_len {t : Nat} {x : Operand} (l : List UInt8) (h : isStr P t = true) (ho : o.op = .call { callee := .builtin .len, args := #[x], argTypes := #[t] }) (hx : ev σ x = some (.string (str l))) (w : World) : Val P n σ o w (.int .i64 (l.length : Nat)) := by
 have := val_strLen (n := n) (str l) h ho hx w
 rwa [str_size] at this
theorem val_byte {t : Nat} {x ix : Operand} {kk : IntKind} (l : List UInt8) (j : Nat) (c : UInt8) {i : Int} (h : isStr P t = true) (ho : o.op = .index t x ix) (hx : ev σ x = some (.string (str l))) (hi : ev σ ix = some (.int kk i))
  (hij : i = (j : Int)) (hc : l[j]? = some c) (w : World) : Val P n σ o w (.int .u8 (c.toNat : Nat)) := val_strAt (str l) j c h ho hx hi hij (str_get hc) w
theorem val_cut {t : Nat} {x lo hi : Operand} {k1 k2 : IntKind} {i1 i2 : Int} (l : List UInt8) (a b : Nat) (ht : isStr P t = true) (ho : o.op = .slice t x (some lo) (some hi) none) (hx : ev σ x = some (.string (str l)))
  (h1 : ev σ lo = some (.int k1 i1)) (h2 : ev σ hi = some (.int k2 i2)) (e1 : i1 = (a : Int)) (e2 : i2 = (b : Int)) (hl : a ≤ b) (hh : b ≤ l.length) (w : World) : Val P n σ o w (.string (str ((l.drop a).take (b - a)))) := by
 have := val_strCut (n := n) (str l) a b ht ho hx h1 h2 e1 e2 hl (by rw [str_size]; exact hh) w
 rwa [str_cut] at this
theorem val_from {t : Nat} {x lo : Operand} {k1 : IntKind} {i1 : Int} (l : List UInt8) (a : Nat) (ht : isStr P t = true) (ho : o.op = .slice t x (some lo) none none) (hx : ev σ x = some (.string (str l)))
  (h1 : ev σ lo = some (.int k1 i1)) (e1 : i1 = (a : Int)) (hl : a ≤ l.length) (w : World) : Val P n σ o w (.string (str (l.drop a))) := by
 have := val_strFrom (n := n) (str l) a ht ho hx h1 e1 (by rw [str_size]; exact hl) w
 rwa [str_from] at this
theorem val_to {t : Nat} {x hi : Operand} {k2 : IntKind} {i2 : Int} (l : List UInt8) (b : Nat) (ht : isStr P t = true) (ho : o.op = .slice t x none (some hi) none) (hx : ev σ x = some (.string (str l)))
  (h2 : ev σ hi = some (.int k2 i2)) (e2 : i2 = (b : Int)) (hh : b ≤ l.length) (w : World) : Val P n σ o w (.string (str (l.take b))) := by
 have := val_strTo (n := n) (str l) b ht ho hx h2 e2 (by rw [str_size]; exact hh) w
 rwa [str_to] at this
theorem val_add {t t' : Nat} {x y : Operand} (a b : List UInt8) (ho : o.op = .binOp .add t x y t') (hx : ev σ x = some (.string (str a))) (hy : ev σ y = some (.string (str b))) (hs : a.length + b.length ≤ 9223372036854775807) (w : World) : Val P n σ o w (.string (str (a ++ b))) := by
 have := val_strAdd (P := P) (n := n) (str a) (str b) ho hx hy (by rw [str_size, str_size]; exact hs) w
 rwa [str_add] at this
theorem val_neS {t t' : Nat} {x y : Operand} (a b : List UInt8) (r : Bool) (ho : o.op = .binOp .neq t x y t') (hx : ev σ x = some (.string (str a))) (hy : ev σ y = some (.string (str b))) (hr : (!(a == b)) = r) (w : World) : Val P n σ o w (.bool r) :=
 val_neStr (str a) (str b) r ho hx hy (by rw [str_toList, str_toList]; exact hr) w
variable {f : Nat} {k : List Item} {K Kp : Value → World → Prop} {w : World}
theorem rn_retTC {fn : Func} {t0 t1 ty : Nat} {ad : Addr} {x y : Value} (hf : P.funcs[f]? = some fn) (hr : fn.results = #[.tmp t0, .cell t1 ty]) (h0 : look σ t0 = some x) (h1 : look σ t1 = some (.pointer (some ad))) (hv : (loadVar ty ad).run P w = .ok y w)
  (hR : K (.tuple #[x, y]) w) : Rn P f n (.code .ret :: k) (endR K Kp) σ w := fun a ha hd =>
 runs_ret hf hd (by simp only [results, hr]; simp [ha.has t0 _ h0, ha.has t1 _ h1, asAddr, hv]) hR
end
end
section
open Go.Proofs
section
variable {P : Program} {T : Tbl} {n : Nat} {σ : Env} {o : Oper} {w : World} {v : Value}
theorem val_nilNil {t t' : Nat} {x : Operand} (h : isPtr P t = true) (ho : o.op = .binOp .eql t x (.const (.pointer none)) t') (hx : ev σ x = some (.pointer none)) (w : World) : Val P n σ o w (.bool true) := by
 intro ac ha
 unfold isPtr at h
 split at h
 ·rename_i e hu
  have he : ∀ d, (Op.equalIn (d + 1) t (.pointer none) (.pointer none)).run P w = .ok true w := fun d => by
   simp [Op.equalIn, run_underlying hu]
  have he' : (Op.equal t (.pointer none) (.pointer none)).run P w = .ok true w := he 9999
  have hc : ac.eval (.const (.pointer none)) = .pointer none := rfl
  simp [execOp, ho, ha.eval hx, hc, eqGuard, binOp, he']
 ·cases h
def ptrSz (P : Program) (t : Nat) : Bool :=
 match P.underlying t with
 | some (.pointer e) => match P.info? e with
  | some i => i.size != 0
  | none => false
 | _ => false
theorem val_neSelf {t t' : Nat} {x y : Operand} {ad : Addr} (h : ptrSz P t = true) (ho : o.op = .binOp .neq t x y t') (hx : ev σ x = some (.pointer (some ad))) (hy : ev σ y = some (.pointer (some ad))) (w : World) : Val P n σ o w (.bool false) := by
 intro ac ha
 unfold ptrSz at h
 split at h
 ·rename_i e hu
  split at h
  ·rename_i i hi
   have he := Lib.run_neq_ptr_same (P := P) w ad hu hi
   simp [execOp, ho, ha.eval hx, ha.eval hy, eqGuard, he]
  ·cases h
 ·cases h
def isUns (P : Program) (t : Nat) : Bool :=
 match P.underlying t with
 | some .unsafePointer => true
 | _ => false
theorem isUns_spec {t : Nat} (h : isUns P t = true) : P.underlying t = some .unsafePointer := by
 unfold isUns at h
 split at h
 ·assumption
 ·cases h
theorem val_toUnsafe {s d : Nat} {x : Operand} {b i : Nat} {L : List Value} {e : TypeId} (h : ptrSz P s = true) (hd : isUns P d = true) (ho : o.op = .convert s d x) (hx : ev σ x = some (.pointer (some ⟨b, i, none⟩))) (hb : Blk w b L e) (hi : i < L.length) : Val P n σ o w (.pointer (some ⟨b, i, none⟩)) := by
 intro ac ha
 unfold ptrSz at h
 split at h
 ·rename_i u hu
  split at h
  ·rename_i j hj
   have hne : j.size ≠ 0 := by simpa using h
   have hb' := hb
   unfold Blk at hb'
   have hr := Lib.run_to_unsafe (P := P) w ⟨b, i, none⟩ hu (isUns_spec hd) hj hne (e := e) (cells := L.length) (by simp [World.shape?, hb']) hi
   simp [execOp, ho, ha.eval hx, hr]
  ·cases h
 ·cases h
def liesOk (P : Program) (d e cells i : Nat) : Bool :=
 match P.underlying d with
 | some (.pointer u) => (match P.info? u with | some _ => true | none => false) && liesAt P P.depth e (cells / P.cellsOf e) i u 1
 | _ => false
theorem val_fromUnsafe {s d : Nat} {x : Operand} {b i : Nat} {L : List Value} {e : TypeId} (h : liesOk P d e L.length i = true) (hs : isUns P s = true) (ho : o.op = .convert s d x) (hx : ev σ x = some (.pointer (some ⟨b, i, none⟩))) (hb : Blk w b L e) : Val P n σ o w (.pointer (some ⟨b, i, none⟩)) := by
 intro ac ha
 unfold liesOk at h
 split at h
 ·rename_i u hu
  simp only [Bool.and_eq_true] at h
  obtain ⟨h1, h2⟩ := h
  split at h1
  ·rename_i j hj
   have hb' := hb
   unfold Blk at hb'
   have hr := Lib.run_from_unsafe (P := P) w ⟨b, i, none⟩ (isUns_spec hs) hu hj (e := e) (cells := L.length) (by simp [World.shape?, hb']) h2
   simp [execOp, ho, ha.eval hx, hr]
  ·cases h1
 ·cases h
theorem val_noEscape {c : Call} {x : Operand} {g : Nat} {fn : Func} {v : Value} (ho : o.op = .call c) (hc : c.callee = .value x) (hx : ev σ x = some (.func (.func g) #[] #[])) (hv : evs σ c.args.toList = some [v])
  (hf : P.funcs[g]? = some fn) (hname : (fn.name == "runtime.NumGoroutine") = false) (hb : fn.body.isNone = true) (hn : Extern.findNext fn = none) (he : Extern.find fn = some Extern.AbiNoEscape.same) (w : World) : Val P n σ o w v := by
 intro ac ha
 have hargs := map_eq_toArray (ha.evals hv)
 have hr := run_callFunc_extern hf hname hb hn he #[v] w
 rw [Lib.run_noEscape] at hr
 simp only [Result.andThen] at hr
 simp [execOp, ho, resolve, hc, hargs, ha.eval hx, Deferred.ofValue, invoke, hr]
def byteSl (P : Program) (t e : Nat) : Bool :=
 match P.underlying t with
 | some (.slice e') => e' == e && (match P.info? e with
  | some i => i.size == 1 && i.bytes == 1 && (match i.zero with | some (.int .u8 z) => z == 0 | _ => false)
  | none => false)
 | _ => false
theorem byteSl_spec {t e : Nat} (h : byteSl P t e = true) : ∃ i, P.underlying t = some (.slice e) ∧ P.info? e = some i ∧ i.zero = some (.int .u8 0) ∧ i.size = 1 ∧ i.bytes = 1 := by
 unfold byteSl at h
 split at h
 ·rename_i e' hu
  simp only [Bool.and_eq_true, beq_iff_eq] at h
  obtain ⟨rfl, h⟩ := h
  split at h
  ·rename_i i hi
   simp only [Bool.and_eq_true, beq_iff_eq] at h
   obtain ⟨⟨h1, h2⟩, h3⟩ := h
   split at h3
   ·rename_i z hz
    have : z = 0 := by simpa using h3
    subst this
    exact ⟨i, hu, hi, hz, h1, h2⟩
   ·cases h3
  ·cases h
 ·cases h
theorem val_sliceData {t : TypeId} {x : Operand} {ad : Addr} {ln cap : Nat} (ho : o.op = .call { callee := .builtin .unsafeSliceData, args := #[x], argTypes := #[t] }) (hx : ev σ x = some (.slice (some ad) ln cap)) (hc : cap ≠ 0) (w : World) : Val P n σ o w (.pointer (some ad)) := by
 intro ac ha
 have hr := Lib.run_unsafeSliceData_row (P := P) w #[t] o.type ad ln cap hc
 simp [execOp, ho, resolve, invoke, builtin, ha.eval hx, hr]
theorem val_sliceDataNil {t : TypeId} {x : Operand} {ln cap : Nat} (ho : o.op = .call { callee := .builtin .unsafeSliceData, args := #[x], argTypes := #[t] }) (hx : ev σ x = some (.slice none ln cap)) (w : World) : Val P n σ o w (.pointer none) := by
 intro ac ha
 have hr := Lib.run_unsafeSliceData_nil (P := P) w #[t] o.type ln cap
 simp [execOp, ho, resolve, invoke, builtin, ha.eval hx, hr]
theorem val_uStr0 {t u : TypeId} {x y : Operand} {q : Option Addr} (ho : o.op = .call { callee := .builtin .unsafeString, args := #[x, y], argTypes := #[t, u] }) (hx : ev σ x = some (.pointer q)) (hy : ev σ y = some (.int .i64 0)) (w : World) : Val P n σ o w (.string (str [])) := by
 intro ac ha
 have hr := Lib.run_unsafeString_none (P := P) w t u o.type q
 simp [execOp, ho, resolve, invoke, builtin, ha.eval hx, ha.eval hy, hr]
 rfl
def bytePtr (P : Program) (t e : Nat) : Bool :=
 match P.underlying t with
 | some (.pointer e') => e' == e && P.cellsOf e == 1
 | _ => false
theorem opTo_uStr {t u : TypeId} {x y : Operand} {g e cap ln base : Nat} {K : Value → World → Prop} (l : List UInt8) (ho : o.op = .call { callee := .builtin .unsafeString, args := #[x, y], argTypes := #[t, u] }) (hx : ev σ x = some (.pointer (some ⟨g, 0, none⟩))) (hy : ev σ y = some (.int .i64 (l.length : Nat)))
  (hP : bytePtr P t e = true) (h0 : l ≠ []) (hown : w.ownsRow base e 1 (.slice (some ⟨g, 0, none⟩) ln cap) l.length (Lib.byteCells l)) (hK : K (.string (str l)) (w.freeze ⟨g, 0, none⟩ l.length)) : OpTo P n σ o w K := by
 unfold bytePtr at hP
 split at hP
 ·rename_i e' hu
  simp only [Bool.and_eq_true, beq_iff_eq] at hP
  obtain ⟨rfl, hc⟩ := hP
  have hl0 : l.length ≠ 0 := by simpa using h0
  have hcells := hown.cells (g := g) rfl
  rcases hown.2 with ⟨hv, _⟩ | ⟨g', cap', cur, hv, _, hg, hnc, hcm, hcs, _⟩
  ·cases hv
  ·cases hv
   have hr := Lib.run_unsafeString_row (P := P) w t u o.type e' hu hc g cur.size (by simp [World.shape?, hg]) l h0 (by omega) (by unfold maxLen at hcm; omega) (fun j x hx => hcells j (.int .u8 x.toNat) (by simp [Lib.byteCells, hx]))
   refine opTo_run (w' := w.freeze ⟨g, 0, none⟩ l.length) (v := .string (str l)) (fun a ha => ?_) hK
   simp [execOp, ho, resolve, invoke, builtin, ha.eval hx, ha.eval hy, hr]
   rfl
 ·cases hP
end
end
end E
end Go.Proofs.YtoigoojdbpbhoagGreatDoor
