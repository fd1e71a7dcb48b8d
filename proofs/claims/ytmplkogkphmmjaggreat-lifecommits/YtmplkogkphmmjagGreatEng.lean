/- The engine of this seat's proofs: a frame is known by a list of its slots; a region that draws its order is walked once, whatever the order; a call is met by what it returns. -/
import Derived.Orders
import Derived.Tactics
import Derived.Deep.AppendLies
import Derived.Deep.MidRow
import Derived.KernelRfl
import Derived.Recover
namespace Go.Proofs.YtmplkogkphmmjagGreat
set_option maxRecDepth 20000
set_option maxHeartbeats 4000000
namespace E

abbrev Env := List (Nat × Value)

def look : Env → Nat → Option Value
  | [], _ => none
  | (s, v) :: r, t => match Nat.beq s t with
    | true => some v
    | false => look r t

def ev (σ : Env) : Operand → Option Value
  | .tmp t => look σ t
  | .const v => some v
  | .global g => some (.pointer (some ⟨g, 0, none⟩))
  | .func f => some (.func (.func f) #[] #[])

def evs (σ : Env) : List Operand → Option (List Value)
  | [] => some []
  | x :: r => match ev σ x with
    | none => none
    | some v => match evs σ r with
      | none => none
      | some vs => some (v :: vs)

/-- What is known of a frame: how many slots it has, and what the listed slots hold. -/
structure Fr (n : Nat) (σ : Env) (a : Act) : Prop where
  size : a.tmps.size = n
  has : ∀ t v, look σ t = some v → a.tmps[t]? = some v

def put (σ : Env) (d : Option Tmp) (v : Value) : Env :=
  match d with
  | some d => (d, v) :: σ
  | none => σ

def dstOk (n : Nat) (d : Option Tmp) : Bool :=
  match d with
  | some d => Nat.blt d n
  | none => true

theorem look_cons (p : Nat × Value) (r : Env) (t : Nat) : look (p :: r) t = if p.1 = t then some p.2 else look r t := by
  obtain ⟨s, v⟩ := p
  by_cases h : s = t
  · subst h
    simp [look]
  · have hb : Nat.beq s t = false := by
      cases hb : Nat.beq s t with
      | false => rfl
      | true => exact absurd (Nat.eq_of_beq_eq_true hb) h
    simp [look, hb, h]

theorem Fr.put {n : Nat} {σ : Env} {a : Act} (h : Fr n σ a) (d : Option Tmp) (v : Value) (hd : dstOk n d = true) : Fr n (E.put σ d v) (a.put d v) := by
  cases d with
  | none => exact h
  | some d =>
    have hlt : d < n := by simpa [dstOk, Nat.blt_eq] using hd
    refine ⟨by simpa [Act.put] using h.size, fun t u hu => ?_⟩
    simp only [E.put, look_cons] at hu
    by_cases e : d = t
    · subst e
      rw [if_pos rfl] at hu
      cases hu
      simp [Act.put, h.size, hlt]
    · rw [if_neg e] at hu
      simp only [Act.put]
      rw [Array.getElem?_setIfInBounds_ne e]
      exact h.has t u hu

theorem Fr.eval {n : Nat} {σ : Env} {a : Act} (h : Fr n σ a) {x : Operand} {v : Value} (hx : ev σ x = some v) : a.eval x = v := by
  cases x with
  | tmp t =>
    have := h.has t v hx
    simp [Act.eval, this]
  | const u => simpa [ev, Act.eval] using hx
  | global g => simpa [ev, Act.eval] using hx
  | func f => simpa [ev, Act.eval] using hx

theorem Fr.evals {n : Nat} {σ : Env} {a : Act} (h : Fr n σ a) : ∀ {xs : List Operand} {vs : List Value}, evs σ xs = some vs → xs.map a.eval = vs
  | [], vs, hv => by simp [evs] at hv; subst hv; rfl
  | x :: r, vs, hv => by
    simp only [evs] at hv
    cases hx : ev σ x with
    | none => simp [hx] at hv
    | some v =>
      cases hr : evs σ r with
      | none => simp [hx, hr] at hv
      | some us =>
        simp only [hx, hr, Option.some.injEq] at hv
        subst hv
        simp [h.eval hx, h.evals hr]

def Sub : Env → Env → Prop
  | [], _ => True
  | p :: r, σ => look σ p.1 = some p.2 ∧ Sub r σ

theorem Sub.look {σ : Env} : ∀ {σ' : Env}, Sub σ' σ → ∀ t v, E.look σ' t = some v → E.look σ t = some v
  | [], _, t, v, h => by simp [E.look] at h
  | p :: r, hs, t, v, h => by
    rw [look_cons] at h
    by_cases e : p.1 = t
    · rw [if_pos e] at h
      cases h
      rw [← e]; exact hs.1
    · rw [if_neg e] at h
      exact Sub.look hs.2 t v h

theorem Fr.sub {n : Nat} {σ σ' : Env} {a : Act} (h : Fr n σ a) (hs : Sub σ' σ) : Fr n σ' a := ⟨h.size, fun t v hv => h.has t v (hs.look t v hv)⟩

/-! ### Running the code of one function -/

/-- What a function comes to: how it was called, what it has deferred, its endings. -/
structure Post where
  kind : CallKind
  defers : List Deferred
  out : Ending → World → Prop

/-- One panic, with this value. -/
def pan (v : Value) : List PanicEntry := [{ v := v, recovered := false }]

/-- It returns with K, or panics with Kp. -/
def endR (K Kp : Value → World → Prop) : Post := ⟨.normal, [], fun e w => (∃ v, e = .returned v ∧ K v w) ∨ ∃ v, e = .panicked (pan v) ∧ Kp v w⟩
abbrev retR (K : Value → World → Prop) : Post := endR K fun _ _ => False

theorem put_defers (a : Act) (d : Option Tmp) (v : Value) : (a.put d v).defers = a.defers := by cases d <;> rfl

/-- The frame at the end is of the kind that it was (of a panic nobody asks it). -/
def KOk (k : CallKind) (fr : Frame) : Ending → Prop
  | .returned _ => fr.kind = k
  | _ => fr.kind = k ∨ k = .normal

def Runs (P : Program) (f : FuncId) (todo : List Item) (R : Post) (a : Act) (w : World) : Prop :=
  ∀ (b : Frame) (cs : List Frame), b.fn = f → b.kind = R.kind →
    ∃ e w' fr, R.out e w' ∧ Comes P (lone (b.at a todo) cs w) (lone fr cs w') e ∧ fr.fn = f ∧ KOk R.kind fr e ∧ fr.going P w' e

def Rn (P : Program) (f n : Nat) (todo : List Item) (R : Post) (σ : Env) (w : World) : Prop := ∀ a, Fr n σ a → a.defers = R.defers → Runs P f todo R a w

/-- It returns, and what it returns, with the world behind it, is in R. -/
def Ret (P : Program) (f : FuncId) (args : List Value) (w : World) (R : Value → World → Prop) : Prop :=
  Calls P f args.toArray w fun e w' => ∃ v, e = .returned v ∧ R v w'

theorem Ret.mono {P : Program} {f : FuncId} {args : List Value} {w : World} {R R' : Value → World → Prop} (h : Ret P f args w R) (hr : ∀ v w', R v w' → R' v w') : Ret P f args w R' :=
  Calls.mono h fun _ _ ⟨v, he, hR⟩ => ⟨v, he, hr _ _ hR⟩

/-- It returns with K, or panics with Kp. -/
def End (P : Program) (f : FuncId) (args : List Value) (w : World) (K Kp : Value → World → Prop) : Prop := Calls P f args.toArray w (endR K Kp).out

theorem End.mono {P : Program} {f : FuncId} {args : List Value} {w : World} {K Kp K' Kp' : Value → World → Prop} (h : End P f args w K Kp) (hr : ∀ v w', K v w' → K' v w') (hp : ∀ v w', Kp v w' → Kp' v w') : End P f args w K' Kp' :=
  Calls.mono h fun _ _ h => h.elim (fun ⟨v, he, hR⟩ => .inl ⟨v, he, hr _ _ hR⟩) fun ⟨v, he, hR⟩ => .inr ⟨v, he, hp _ _ hR⟩
theorem Ret.end {P : Program} {f : FuncId} {args : List Value} {w : World} {K Kp : Value → World → Prop} (h : Ret P f args w K) : End P f args w K Kp := Calls.mono h fun _ _ h => .inl h
theorem End.ret {P : Program} {f : FuncId} {args : List Value} {w : World} {K : Value → World → Prop} (h : End P f args w K fun _ _ => False) : Ret P f args w K :=
  Calls.mono h fun _ _ h => h.elim id fun ⟨_, _, hR⟩ => hR.elim

def envOf : List Value → Nat → Env
  | [], _ => []
  | v :: r, i => (i, v) :: envOf r (i + 1)

theorem look_envOf : ∀ (l : List Value) (i t : Nat) (v : Value), look (envOf l i) t = some v → i ≤ t ∧ l[t - i]? = some v
  | [], _, _, _, h => by simp [envOf, look] at h
  | u :: r, i, t, v, h => by
    simp only [envOf, look_cons] at h
    by_cases e : i = t
    · subst e; simp at h; subst h; simp
    · rw [if_neg e] at h
      have := look_envOf r (i + 1) t v h
      refine ⟨by omega, ?_⟩
      have e2 : t - i = (t - (i + 1)) + 1 := by omega
      rw [e2, List.getElem?_cons_succ]; exact this.2

theorem Frame.leaving_of {P : Program} {fr : Frame} {w : World} {e : Ending} (hk : KOk .normal fr e) (h : fr.going P w e) : fr.leaving P w e := by
  cases e with
  | returned v => exact ⟨h.1, h.2.1, hk, h.2.2⟩
  | panicked chain => exact h
  | outgrown => trivial

theorem calls_of {P : Program} {f : FuncId} {fn : Func} {c : Code} {args : List Value} {w : World} {R : Post} (n : Nat)
    (hf : P.funcs[f]? = some fn) (hb : fn.body = some c) (hn : fn.ntmps = n) (hl : args.length ≤ n) (hk : R.kind = .normal) (hd : R.defers = [])
    (h : Rn P f n [.code c] R (envOf args 0) w) : Calls P f args.toArray w R.out := by
  intro cs
  let b : Frame := { (default : Frame) with fn := f, kind := .normal }
  have henter : Frame.enter P f args.toArray .normal =
      b.at { tmps := args.toArray ++ Array.replicate (fn.ntmps - args.toArray.size) undef, defers := [] } [.code c] := by
    simp [Frame.enter, Frame.at, hf, hb, b]
  obtain ⟨e, w', fr, hR, hs, hfn, hk', hl'⟩ := h { tmps := args.toArray ++ Array.replicate (fn.ntmps - args.toArray.size) undef, defers := [] }
    ⟨by simp [hn]; omega, fun t v hv => by
      have := (look_envOf args 0 t v hv).2
      simp only [Nat.sub_zero] at this
      have hlt : t < args.length := (List.getElem?_eq_some_iff.1 this).1
      rw [Array.getElem?_append_left (by simpa using hlt)]
      simpa using this⟩ hd.symm b cs rfl hk.symm
  rw [← henter] at hs
  exact ⟨e, w', fr, hR, hs, hfn, Frame.leaving_of (hk ▸ hk') hl'⟩

theorem end_of {P : Program} {f : FuncId} {fn : Func} {c : Code} {args : List Value} {w : World} {K Kp : Value → World → Prop} (n : Nat)
    (hf : P.funcs[f]? = some fn) (hb : fn.body = some c) (hn : fn.ntmps = n) (hl : args.length ≤ n)
    (h : Rn P f n [.code c] (endR K Kp) (envOf args 0) w) : End P f args w K Kp := calls_of n hf hb hn hl rfl rfl h

theorem ret_of {P : Program} {f : FuncId} {fn : Func} {c : Code} {args : List Value} {w : World} {R : Value → World → Prop} (n : Nat)
    (hf : P.funcs[f]? = some fn) (hb : fn.body = some c) (hn : fn.ntmps = n) (hl : args.length ≤ n)
    (h : Rn P f n [.code c] (retR R) (envOf args 0) w) : Ret P f args w R := (end_of n hf hb hn hl h).ret

section
variable {P : Program} {f n : Nat} {k : List Item} {R : Post} {σ : Env} {w : World}

theorem Runs.step {a : Act} {todo todo' : List Item} (hs : ∀ (b : Frame) cs, step P (lone (b.at a todo) cs w) = .next (lone (b.at a todo') cs w)) (h : Runs P f todo' R a w) : Runs P f todo R a w :=
  fun b cs hb hk => let ⟨e, w', fr, hR, hst, r⟩ := h b cs hb hk; ⟨e, w', fr, hR, Comes.of_steps (.one (hs b cs)) hst, r⟩

theorem rn_seq {x y : Code} (h : Rn P f n (.code x :: .code y :: k) R σ w) : Rn P f n (.code (.seq x y) :: k) R σ w := fun a ha hd => (h a ha hd).step fun _ _ => step_seq
theorem rn_skip (h : Rn P f n k R σ w) : Rn P f n (.code .skip :: k) R σ w := fun a ha hd => (h a ha hd).step fun _ _ => step_skip
theorem rn_block {id : Nat} {c : Code} (h : Rn P f n (.code c :: .inBlock id :: k) R σ w) : Rn P f n (.code (.block id c) :: k) R σ w := fun a ha hd => (h a ha hd).step fun _ _ => step_block
theorem rn_inBlock {id : Nat} (h : Rn P f n k R σ w) : Rn P f n (.inBlock id :: k) R σ w := fun a ha hd => (h a ha hd).step fun _ _ => step_inBlock
theorem rn_exit {id : Nat} {k' : List Item} (hk : exitTo id k = some k') (h : Rn P f n k' R σ w) : Rn P f n (.code (.exit id) :: k) R σ w := fun a ha hd => (h a ha hd).step fun _ _ => step_exit hk
theorem rn_loop {c : Code} (h : Rn P f n (.code c :: .inLoop c :: k) R σ w) : Rn P f n (.code (.loop c) :: k) R σ w := fun a ha hd => (h a ha hd).step fun _ _ => step_loop
theorem rn_inLoop {c : Code} (h : Rn P f n (.code c :: .inLoop c :: k) R σ w) : Rn P f n (.inLoop c :: k) R σ w := fun a ha hd => (h a ha hd).step fun _ _ => step_inLoop
theorem rn_cond {c : Operand} {x y : Code} {t : Bool} (hc : ev σ c = some (.bool t)) (h : Rn P f n (.code (if t then x else y) :: k) R σ w) : Rn P f n (.code (.cond c x y) :: k) R σ w :=
  fun a ha hd => (h a ha hd).step fun _ _ => step_cond (ha.eval hc)
theorem rn_true {c : Operand} {x y : Code} (hc : ev σ c = some (.bool true)) (h : Rn P f n (.code x :: k) R σ w) : Rn P f n (.code (.cond c x y) :: k) R σ w := rn_cond hc h
theorem rn_false {c : Operand} {x y : Code} (hc : ev σ c = some (.bool false)) (h : Rn P f n (.code y :: k) R σ w) : Rn P f n (.code (.cond c x y) :: k) R σ w := rn_cond hc h
theorem rn_sub {todo : List Item} {σ' : Env} (hs : Sub σ' σ) (h : Rn P f n todo R σ' w) : Rn P f n todo R σ w := fun a ha hd => h a (ha.sub hs) hd

/-- What is left behind a point that several ways come to is shown once. -/
theorem rn_with {c : Item} (I : Env → World → Prop) (hcont : ∀ σ' w', I σ' w' → Rn P f n k R σ' w') (hmain : (∀ σ' w', I σ' w' → Rn P f n k R σ' w') → Rn P f n (c :: k) R σ w) : Rn P f n (c :: k) R σ w := hmain hcont

/-- A loop: by a number that gets less. -/
theorem rn_ind {c : Code} (I : Nat → Env → World → Prop) (m : Nat) (σ' : Env) (hs : Sub σ' σ) (h0 : I m σ' w)
    (hstep : ∀ m σ w, (∀ m' σ' w', m' < m → I m' σ' w' → Rn P f n (.inLoop c :: k) R σ' w') → I m σ w → Rn P f n (.code c :: .inLoop c :: k) R σ w) :
    Rn P f n (.code (.loop c) :: k) R σ w := by
  have key : ∀ m σ w, I m σ w → Rn P f n (.code c :: .inLoop c :: k) R σ w := by
    intro m
    induction m using Nat.strongRecOn with
    | _ m ih => exact fun σ w hI => hstep m σ w (fun m' σ' w' hlt hI' => rn_inLoop (ih m' hlt σ' w' hI')) hI
  exact rn_sub hs (rn_loop (key m σ' w h0))

/-! ### The end -/
theorem runs_leave {a : Act} {fn : Func} {v : Value} (hf : P.funcs[f]? = some fn) (hd : a.defers = []) (hr : (results fn a.tmps).run P w = .ok v w) (hR : R.out (.returned v) w) : Runs P f (.code .ret :: k) R a w :=
  fun b _ hb hk => ⟨.returned v, w, _, hR, Steps.one step_ret, hb, hk, rfl, hd, fn, by simpa [Frame.at, hb] using hf, hr⟩
theorem runs_leave0 {a : Act} {fn : Func} {v : Value} (hf : P.funcs[f]? = some fn) (hd : a.defers = []) (hr : (results fn a.tmps).run P w = .ok v w) (hR : R.out (.returned v) w) : Runs P f [] R a w :=
  fun b _ hb hk => ⟨.returned v, w, _, hR, Steps.one step_end, hb, hk, rfl, hd, fn, by simpa [Frame.at, hb] using hf, hr⟩
theorem runs_ret {a : Act} {fn : Func} {v : Value} {K Kp : Value → World → Prop} (hf : P.funcs[f]? = some fn) (hd : a.defers = []) (hr : (results fn a.tmps).run P w = .ok v w) (hR : K v w) : Runs P f (.code .ret :: k) (endR K Kp) a w :=
  runs_leave hf hd hr (.inl ⟨v, rfl, hR⟩)

/-- What a function's results are, out of its slots and its cells. -/
def Res (P : Program) (σ : Env) (w : World) (rs : Array ResultVar) (v : Value) : Prop :=
  (∃ t, rs = #[.tmp t] ∧ look σ t = some v) ∨
  (rs = #[] ∧ v = .tuple #[]) ∨
  (∃ t ty ad, rs = #[.cell t ty] ∧ look σ t = some (.pointer (some ad)) ∧ (loadVar ty ad).run P w = .ok v w) ∨
  (∃ t ty ad u x y, rs = #[.cell t ty, .tmp u] ∧ look σ t = some (.pointer (some ad)) ∧ (loadVar ty ad).run P w = .ok x w ∧ look σ u = some y ∧ v = .tuple #[x, y]) ∨
  (∃ t u x y, rs = #[.tmp t, .tmp u] ∧ look σ t = some x ∧ look σ u = some y ∧ v = .tuple #[x, y])

theorem Fr.getD {a : Act} (h : Fr n σ a) {t : Nat} {v : Value} (hv : look σ t = some v) : a.tmps.getD t undef = v := by simp [h.has t v hv]

theorem Res.run {a : Act} {fn : Func} {v : Value} (ha : Fr n σ a) (h : Res P σ w fn.results v) : (results fn a.tmps).run P w = .ok v w := by
  rcases h with ⟨t, hr, hl⟩ | ⟨hr, rfl⟩ | ⟨t, ty, ad, hr, hl, hv⟩ | ⟨t, ty, ad, u, x, y, hr, hl, hx, hu, rfl⟩ | ⟨t, u, x, y, hr, hx, hy, rfl⟩
  · simp only [results, hr]
    simp [ha.has t v hl]
  · simp only [results, hr]
    simp
  · simp only [results, hr]
    simp [ha.has t _ hl, asAddr, hv]
  · simp only [results, hr]
    simp [ha.has t _ hl, ha.has u _ hu, asAddr, hx]
  · simp only [results, hr]
    simp [ha.has t _ hx, ha.has u _ hy]

theorem rn_ret {fn : Func} {v : Value} {K Kp : Value → World → Prop} (hf : P.funcs[f]? = some fn) (hr : Res P σ w fn.results v) (hR : K v w) : Rn P f n (.code .ret :: k) (endR K Kp) σ w :=
  fun _ ha hd => runs_leave hf hd (hr.run ha) (.inl ⟨v, rfl, hR⟩)
theorem rn_end {fn : Func} {v : Value} {K Kp : Value → World → Prop} (hf : P.funcs[f]? = some fn) (hr : Res P σ w fn.results v) (hR : K v w) : Rn P f n [] (endR K Kp) σ w :=
  fun _ ha hd => runs_leave0 hf hd (hr.run ha) (.inl ⟨v, rfl, hR⟩)
/-- Whatever it was called as, with nothing deferred. -/
theorem rn_retX {fn : Func} {v : Value} (hf : P.funcs[f]? = some fn) (hD : R.defers = []) (hr : Res P σ w fn.results v) (hR : R.out (.returned v) w) : Rn P f n (.code .ret :: k) R σ w :=
  fun _ ha hd => runs_leave hf (hd.trans hD) (hr.run ha) hR
theorem rn_endX {fn : Func} {v : Value} (hf : P.funcs[f]? = some fn) (hD : R.defers = []) (hr : Res P σ w fn.results v) (hR : R.out (.returned v) w) : Rn P f n [] R σ w :=
  fun _ ha hd => runs_leave0 hf (hd.trans hD) (hr.run ha) hR

theorem Frame.going_of {P : Program} {fr : Frame} {w : World} {e : Ending} (h : fr.leaving P w e) : fr.going P w e := by
  cases e with
  | returned v => exact ⟨h.1, h.2.1, h.2.2.2⟩
  | panicked chain => exact h
  | outgrown => trivial

/-- With something deferred: what is left is to call that. -/
theorem runs_leaves {a : Act} {fn : Func} (hf : P.funcs[f]? = some fn) (hk : R.kind = .normal) (u : FrameMode) (h : Leaves P fn a.tmps R.out a.defers u w) (fr : Frame) (cs : List Frame) (h1 : fr.fn = f) (h2 : fr.kind = R.kind) (h3 : fr.mode = u) (h4 : fr.defers = a.defers) (h5 : fr.tmps = a.tmps) :
    ∃ e w' fr', R.out e w' ∧ Comes P (lone fr cs w) (lone fr' cs w') e ∧ fr'.fn = f ∧ KOk R.kind fr' e ∧ fr'.going P w' e := by
  obtain ⟨e, w', fr', hR, hs, hfn, hl⟩ := leaves_steps a.defers u w fr cs h3 h4 h5 (by rw [h1]; exact hf) (h2.trans hk) h
  refine ⟨e, w', fr', hR, hs, hfn.trans h1, ?_, Frame.going_of hl⟩
  cases e with
  | returned v => exact hl.2.2.1.trans hk.symm
  | panicked chain => exact .inr hk
  | outgrown => exact .inr hk
theorem rn_retD {fn : Func} (hf : P.funcs[f]? = some fn) (hk : R.kind = .normal) (h : ∀ a, Fr n σ a → Leaves P fn a.tmps R.out R.defers .returning w) : Rn P f n (.code .ret :: k) R σ w := fun a ha hd b cs hb hkb => by
  obtain ⟨e, w', fr, hR, hs, r⟩ := runs_leaves hf hk .returning (hd ▸ h a ha) { b.at a (.code .ret :: k) with mode := .returning } cs hb hkb rfl rfl rfl
  exact ⟨e, w', fr, hR, Comes.of_steps (Steps.one step_ret) hs, r⟩

/-! ### Regions -/
/-- Behind a region: the rest of the code, or a panic. -/
def Qn (P : Program) (f : Nat) (k : List Item) (R : Post) : Exit → Act → World → Prop := fun e a w =>
  (e = .normal ∧ Runs P f k R a w) ∨ ∃ ch, e = .panic ch ∧ ∃ fn, P.funcs[f]? = some fn ∧ (a.defers = [] ∨ R.kind = .normal) ∧ Leaves P fn a.tmps R.out a.defers (.panicking ch) w

theorem runs_panic {a : Act} {fn : Func} {ch : List PanicEntry} (hf : P.funcs[f]? = some fn) (hk : a.defers = [] ∨ R.kind = .normal) (h : Leaves P fn a.tmps R.out a.defers (.panicking ch) w) (fr : Frame) (cs : List Frame) (h1 : fr.fn = f) (h2 : fr.kind = R.kind) (h3 : fr.mode = .panicking ch) (h4 : fr.defers = a.defers) (h5 : fr.tmps = a.tmps) :
    ∃ e w' fr', R.out e w' ∧ Comes P (lone fr cs w) (lone fr' cs w') e ∧ fr'.fn = f ∧ KOk R.kind fr' e ∧ fr'.going P w' e := by
  rcases hk with hd | hk
  · rw [hd] at h
    exact ⟨.panicked ch, w, fr, h, Steps.refl P _, h1, .inl h2, h3, h4.trans hd, fn, by rw [h1]; exact hf⟩
  · exact runs_leaves hf hk _ h fr cs h1 h2 h3 h4 h5

theorem runs_arrives {a' : Act} {e : Exit} {w' : World} {b : Frame} {cs : List Frame} {m : Machine} (hq : Qn P f k R e a' w') (harr : Arrives P m b k cs e a' w') (hb : b.fn = f) (hk : b.kind = R.kind) :
    ∃ e w' fr, R.out e w' ∧ Comes P m (lone fr cs w') e ∧ fr.fn = f ∧ KOk R.kind fr e ∧ fr.going P w' e := by
  rcases hq with ⟨rfl, hr⟩ | ⟨ch, rfl, fn, hf, hk', hl⟩
  · obtain ⟨e, w'', fr, hR, hs, r⟩ := hr b cs hb hk
    exact ⟨e, w'', fr, hR, Comes.of_steps harr hs, r⟩
  · obtain ⟨todo, hs⟩ := harr
    obtain ⟨e, w'', fr, hR, hs', r⟩ := runs_panic hf hk' hl { b.at a' todo with mode := .panicking ch } cs hb hk rfl rfl rfl
    exact ⟨e, w'', fr, hR, Comes.of_steps hs hs', r⟩

theorem runs_region {id : Nat} {ops : Array Oper} {d : Bool} {a : Act} (h : (Code.region id ops d).wp P (Qn P f k R) a w) : Runs P f (.code (.region id ops d) :: k) R a w := by
  intro b cs hb hk
  obtain ⟨e, a', w', hq, harr⟩ := h b k cs
  exact runs_arrives hq harr hb hk

def guardOf (ops : Array Oper) (σ : Env) (g : Option (Nat × Bool)) : Option Bool :=
  match g with
  | none => some true
  | some (j, want) => match (ops[j]?).bind (·.dst) with
    | none => none
    | some t => match look σ t with
      | some (.bool b) => some (b == want)
      | some (.tuple _) => some false
      | _ => none

theorem guardOf_spec {ops : Array Oper} {a : Act} {o : Oper} {b : Bool} (ha : Fr n σ a) (h : guardOf ops σ o.guard = some b) : Region.wanted o (yielded ops a.tmps) = b := by
  unfold Region.wanted
  unfold guardOf at h
  split at h
  · rename_i hg; rw [hg]; simpa using h
  · rename_i j want hg
    rw [hg]
    split at h
    · cases h
    · rename_i t ht
      simp only [yielded, ht, Option.bind_some]
      split at h
      · rename_i b' hb'
        rw [ha.has t _ hb']
        simpa using h
      · rename_i vs hb'
        rw [ha.has t _ hb']
        simpa using h
      · cases h

/-- From these slots, in this world, the operation comes to a value and a world in K. -/
def OpTo (P : Program) (n : Nat) (σ : Env) (o : Oper) (w : World) (K : Value → World → Prop) : Prop :=
  ∀ a, Fr n σ a → ∀ (next : Act → World → Prop) (Q : Exit → Act → World → Prop), (∀ v w', K v w' → next (a.put o.dst v) w') → o.wp P a w next Q

/-- In this world the operation yields this value, and leaves the world as it is. -/
def Val (P : Program) (n : Nat) (σ : Env) (o : Oper) (w : World) (v : Value) : Prop := ∀ a, Fr n σ a → (execOp a.eval o).run P w = .ok (.value v) w

theorem Val.opTo {o : Oper} {v : Value} {K : Value → World → Prop} (h : Val P n σ o w v) (hK : K v w) : OpTo P n σ o w K := fun a ha next Q hn => by
  simp only [Oper.wp, h a ha, Oper.upon]
  exact hn v w hK

theorem opTo_run {o : Oper} {v : Value} {w' : World} {K : Value → World → Prop} (h : ∀ a, Fr n σ a → (execOp a.eval o).run P w = .ok (.value v) w') (hK : K v w') : OpTo P n σ o w K := fun a ha next Q hn => by
  simp only [Oper.wp, h a ha, Oper.upon]
  exact hn v w' hK

theorem opTo_skip {o : Oper} {w' : World} {K : Value → World → Prop} (h : ∀ a, Fr n σ a → (execOp a.eval o).run P w = .ok .skip w') (hK : K undef w') : OpTo P n σ o w K := fun a ha next Q hn => by
  simp only [Oper.wp, h a ha, Oper.upon]
  exact hn undef w' hK

/-- .. or panics with Kp. -/
def OpE (P : Program) (n : Nat) (σ : Env) (o : Oper) (w : World) (K Kp : Value → World → Prop) : Prop :=
  ∀ a, Fr n σ a → ∀ (next : Act → World → Prop) (Q : Exit → Act → World → Prop), (∀ v w', K v w' → next (a.put o.dst v) w') → (∀ v w', Kp v w' → Q (.panic (pan v)) a w') → o.wp P a w next Q
theorem OpTo.opE {o : Oper} {K Kp : Value → World → Prop} (h : OpTo P n σ o w K) : OpE P n σ o w K Kp := fun a ha next Q hn _ => h a ha next Q hn
theorem opE_panic {o : Oper} {v : Value} {w' : World} {K Kp : Value → World → Prop} (h : ∀ a, Fr n σ a → (execOp a.eval o).run P w = .halt (.panic v) w') (hK : Kp v w') : OpE P n σ o w K Kp := fun a ha next Q _ hp => by
  simp only [Oper.wp, h a ha, Oper.upon]
  exact hp v w' hK

/-- A region in the order of its text. -/
def Pl (P : Program) (f n : Nat) (ops : Array Oper) (k : List Item) (R : Post) (l : List Oper) (σ : Env) (w : World) : Prop := ∀ a, Fr n σ a → a.defers = R.defers → wpList P ops (Qn P f k R) l a w

theorem rn_plain {id : Nat} {l : List Oper} (h : Pl P f n l.toArray k R l σ w) : Rn P f n (.code (.region id l.toArray false) :: k) R σ w :=
  fun a ha hd => runs_region (wp_region_lit (h a ha hd))

theorem pl_nil {ops : Array Oper} (h : Rn P f n k R σ w) : Pl P f n ops k R [] σ w := fun a ha hd => .inl ⟨rfl, h a ha hd⟩

theorem pl_op {ops : Array Oper} {o : Oper} {l : List Oper} (hg : guardOf ops σ o.guard = some true) (hd : dstOk n o.dst = true)
    (h : OpTo P n σ o w fun v w' => Pl P f n ops k R l (put σ o.dst v) w') : Pl P f n ops k R (o :: l) σ w := fun a ha hdf => by
  unfold wpList
  rw [if_pos (guardOf_spec ha hg)]
  exact .inl (h a ha _ _ fun v w' hv => hv _ (ha.put _ v hd) ((put_defers _ _ _).trans hdf))

theorem pl_val {ops : Array Oper} {o : Oper} {l : List Oper} (v : Value) (hg : guardOf ops σ o.guard = some true) (hd : dstOk n o.dst = true)
    (hv : Val P n σ o w v) (h : Pl P f n ops k R l (put σ o.dst v) w) : Pl P f n ops k R (o :: l) σ w := pl_op hg hd (hv.opTo h)

theorem pl_not {ops : Array Oper} {o : Oper} {l : List Oper} (hg : guardOf ops σ o.guard = some false) (hd : dstOk n o.dst = true)
    (h : Pl P f n ops k R l (put σ o.dst undef) w) : Pl P f n ops k R (o :: l) σ w := fun a ha hdf => by
  unfold wpList
  rw [if_neg (by rw [guardOf_spec ha hg]; simp)]
  exact h _ (ha.put _ _ hd) ((put_defers _ _ _).trans hdf)

/-- An operation that may panic, in a function that has deferred nothing. -/
theorem pl_opE {ops : Array Oper} {o : Oper} {l : List Oper} {fn : Func} {K Kp : Value → World → Prop} (hf : P.funcs[f]? = some fn) (hg : guardOf ops σ o.guard = some true) (hd : dstOk n o.dst = true)
    (h : OpE P n σ o w (fun v w' => Pl P f n ops k (endR K Kp) l (put σ o.dst v) w') Kp) : Pl P f n ops k (endR K Kp) (o :: l) σ w := fun a ha hdf => by
  unfold wpList
  rw [if_pos (guardOf_spec ha hg)]
  refine .inl (h a ha _ _ (fun v w' hv => hv _ (ha.put _ v hd) ((put_defers _ _ _).trans hdf)) fun v w' hv => .inr ⟨_, rfl, fn, hf, .inl hdf, ?_⟩)
  rw [hdf]
  exact .inr ⟨v, rfl, hv⟩
/-- .. that has deferred something. -/
theorem pl_opD {ops : Array Oper} {o : Oper} {l : List Oper} {fn : Func} (hf : P.funcs[f]? = some fn) (hk : R.kind = .normal) (hg : guardOf ops σ o.guard = some true) (hd : dstOk n o.dst = true)
    (h : OpE P n σ o w (fun v w' => Pl P f n ops k R l (put σ o.dst v) w') (fun v w' => ∀ a, Fr n σ a → Leaves P fn a.tmps R.out R.defers (.panicking (pan v)) w')) : Pl P f n ops k R (o :: l) σ w := fun a ha hdf => by
  unfold wpList
  rw [if_pos (guardOf_spec ha hg)]
  refine .inl (h a ha _ _ (fun v w' hv => hv _ (ha.put _ v hd) ((put_defers _ _ _).trans hdf)) fun v w' hv => .inr ⟨_, rfl, fn, hf, .inr hk, ?_⟩)
  rw [hdf]
  exact hv a ha
/-- A call is deferred. -/
theorem pl_defer {ops : Array Oper} {o : Oper} {l : List Oper} {d : Deferred} (hg : guardOf ops σ o.guard = some true) (hd : dstOk n o.dst = true) (hrun : ∀ a, Fr n σ a → (execOp a.eval o).run P w = .ok (.defer d) w)
    (h : Pl P f n ops k ⟨R.kind, d :: R.defers, R.out⟩ l (put σ o.dst undef) w) : Pl P f n ops k R (o :: l) σ w := fun a ha hdf => by
  unfold wpList
  rw [if_pos (guardOf_spec ha hg)]
  refine .inl ?_
  simp only [Oper.wp, hrun a ha, Oper.upon]
  have ha' : Fr n σ { a with defers := d :: a.defers } := ⟨ha.size, ha.has⟩
  exact h _ (ha'.put _ undef hd) (by rw [put_defers, hdf])
end

/-! ### A region that draws its order -/
section
variable {P : Program} {ops : Array Oper} {Q : Exit → Act → World → Prop} {S : World → Prop} {T : List Nat}

/-- Whatever order is drawn from here on; every operation but those of T keeps S. -/
def anyX (P : Program) (ops : Array Oper) (Q : Exit → Act → World → Prop) (S : World → Prop) (T : List Nat) : Nat → Array Bool → Act → World → Prop
  | 0, listed, a, w => Region.ready .any ops listed = [] ∧ Q .normal a w
  | fuel + 1, listed, a, w =>
    (Region.ready .any ops listed = [] → Q .normal a w) ∧
    ∀ i ∈ Region.ready .any ops listed, wpOp P ops Q i (fun a' w' => (i ∉ T → S w → S w') ∧ anyX P ops Q S T fuel (listed.setIfInBounds i true) a' w') a w

theorem anyX_any : ∀ (fuel : Nat) (listed : Array Bool) (a : Act) (w : World), anyX P ops Q S T fuel listed a w → wpAny P .any ops Q fuel listed a w
  | 0, _, _, _, h => h
  | fuel + 1, _, _, _, h => ⟨h.1, fun i hi => wpOp_mono (fun a' w' h' => anyX_any fuel _ a' w' h'.2) (h.2 i hi)⟩

/-- What has come up has all come up that it waits for. -/
def Closed (ops : Array Oper) (listed : Array Bool) : Prop :=
  ∀ j o, ops[j]? = some o → listed.getD j false = true → ∀ e ∈ o.after, Region.binds .any e = true → listed.getD e.on false = true

theorem Closed.set {listed : Array Bool} (h : Closed ops listed) {i : Nat} (hi : i ∈ Region.ready .any ops listed) : Closed ops (listed.setIfInBounds i true) := by
  intro j o ho hj e he hb
  obtain ⟨_, oi, hoi, hall⟩ := mem_ready.1 hi
  refine getD_set_true ?_
  by_cases hji : i = j
  · subst hji
    rw [hoi] at ho
    cases ho
    exact hall e he hb
  · rw [getD_set_ne false hji] at hj
    exact h j o ho hj e he hb

/-- t waits for i, through others at most. -/
def reach (ops : Array Oper) (i : Nat) : Nat → Nat → Bool
  | 0, _ => false
  | fuel + 1, t => match ops[t]? with
    | some o => o.after.any fun e => Region.binds .any e && (e.on == i || reach ops i fuel e.on)
    | none => false

theorem reach_spec {listed : Array Bool} {i : Nat} (hc : Closed ops listed) : ∀ (fuel t : Nat) (o : Oper), ops[t]? = some o → (∀ e ∈ o.after, Region.binds .any e = true → listed.getD e.on false = true) → reach ops i fuel t = true → listed.getD i false = true
  | 0, _, _, _, _, h => by simp [reach] at h
  | fuel + 1, t, o, ho, hall, h => by
    unfold reach at h
    simp only [ho] at h
    obtain ⟨e, he, hb⟩ := Array.any_eq_true'.1 h
    simp only [Bool.and_eq_true, Bool.or_eq_true, beq_iff_eq] at hb
    have hl := hall e he hb.1
    rcases hb.2 with h1 | h1
    · rw [← h1]; exact hl
    · cases hoe : ops[e.on]? with
      | none =>
        cases fuel with
        | zero => simp [reach] at h1
        | succ fuel => simp [reach, hoe] at h1
      | some oe => exact reach_spec hc fuel e.on oe hoe (hc e.on oe hoe hl) h1

/-- What yields its value in every world of D may be taken first, if whatever may come before it keeps D. -/
theorem anyX_first {D : World → Prop} {i : Nat} {oi : Oper} {v : Value} (hi : ops[i]? = some oi) (hsel : ∀ (j : Nat) (o : Oper) cs b, ops[j]? = some o → o.op ≠ .select cs b)
    (hQ : ∀ c a w, Q (.panic c) (a.put oi.dst v) w → Q (.panic c) a w)
    (hDj : ∀ (listed : Array Bool) j, Closed ops listed → listed.getD i false = false → j ∈ Region.ready .any ops listed → ∀ w w', D w → (j ∉ T → S w → S w') → D w') :
    ∀ (fuel : Nat) (listed : Array Bool) (a : Act) (w : World), Closed ops listed →
      (∀ j oj, ops[j]? = some oj → j ≠ i → listed.getD j true = false → (∀ e ∈ oj.after, Region.binds .any e = true → e.on ≠ i) → oi.apart ops oj = true) →
      i ∈ Region.ready .any ops listed → YieldsIf P ops D oi v a → D w →
      anyX P ops Q S T fuel (listed.setIfInBounds i true) (a.put oi.dst v) w → anyX P ops Q S T (fuel + 1) listed a w := by
  intro fuel
  induction fuel with
  | zero =>
    intro listed a w _ _ hr hy hD H
    refine ⟨fun h => (by rw [h] at hr; cases hr), fun j hj => ?_⟩
    by_cases hji : j = i
    · subst hji; exact hy.wpOp hi hD ⟨fun _ hS => hS, H⟩
    · have := ready_mono hj hji
      rw [H.1] at this
      cases this
  | succ fuel ih =>
    intro listed a w hcl hfree hr hy hD H
    refine ⟨fun h => (by rw [h] at hr; cases hr), fun j hj => ?_⟩
    by_cases hji : j = i
    · subst hji; exact hy.wpOp hi hD ⟨fun _ hS => hS, H⟩
    · have h1 := H.2 j (ready_mono hj hji)
      obtain ⟨hjun, oj, hoj, hall⟩ := mem_ready.1 hj
      have hnot : ∀ e ∈ oj.after, Region.binds .any e = true → e.on ≠ i := fun e he hb heq => by
        have h1 := hall e he hb
        have h0 := (mem_ready.1 hr).1
        rw [heq] at h1
        rcases Nat.lt_or_ge i listed.size with h' | h'
        · simp [h'] at h0 h1; rw [h0] at h1; cases h1
        · simp [Array.getElem?_eq_none h'] at h1
      have hfj := hfree j oj hoj hji hjun hnot
      have hil : listed.getD i false = false := by
        have h0 := (mem_ready.1 hr).1
        rcases Nat.lt_or_ge i listed.size with h' | h'
        · simp [h'] at h0 ⊢; exact h0
        · simp [Array.getElem?_eq_none h']
      have h2 := wpOp_putIf hoj hfj (fun cs b => hsel i oi cs b hi) (fun cs b => hsel j oj cs b hoj) hQ hy h1
      have hfree' : ∀ k ok, ops[k]? = some ok → k ≠ i → (listed.setIfInBounds j true).getD k true = false →
          (∀ e ∈ ok.after, Region.binds .any e = true → e.on ≠ i) → oi.apart ops ok = true := fun k ok hk hki hun hno => by
        refine hfree k ok hk hki ?_ hno
        by_cases hjk : j = k
        · subst hjk; exact hjun
        · rw [getD_set_ne true hjk] at hun; exact hun
      refine wpOp_mono (fun a' w' h3 => ⟨h3.2.1, ih (listed.setIfInBounds j true) a' w' (hcl.set hj) hfree' (ready_mono hr (Ne.symm hji)) h3.1 (hDj listed j hcl hil hj w w' hD h3.2.1) ?_⟩) h2
      rw [Array.setIfInBounds_comm _ _ hji]
      exact h3.2.2

/-- Where all that is left is of T, another S may be taken. -/
theorem anyX_switch {S' : World → Prop} {T' : List Nat} : ∀ (fuel : Nat) (listed : Array Bool) (a : Act) (w : World),
    (∀ j, listed.getD j true = false → j ∈ T) → anyX P ops Q S' T' fuel listed a w → anyX P ops Q S T fuel listed a w
  | 0, _, _, _, _, h => h
  | fuel + 1, listed, _, _, hT, h => ⟨h.1, fun i hi => wpOp_mono (fun a' w' h' => ⟨fun hn => absurd (hT i (mem_ready.1 hi).1) hn, anyX_switch fuel _ a' w' (fun j hj => hT j (by
      by_cases e : i = j
      · subst e; exact (mem_ready.1 hi).1
      · rwa [getD_set_ne true e] at hj)) h'.2⟩) (h.2 i hi)⟩

/-- Those that have come up, as the bits of a number. -/
def bits (n m : Nat) : Array Bool := ((List.range n).map fun i => m.testBit i).toArray

theorem bits_set (n m i : Nat) : (bits n m).setIfInBounds i true = bits n (m ||| 2 ^ i) := by
  apply Array.ext
  · simp [bits]
  · intro j h1 h2
    simp only [bits, Array.size_setIfInBounds, List.size_toArray, List.length_map, List.length_range] at h1
    rw [Array.getElem_setIfInBounds]
    · simp only [bits, List.getElem_toArray, List.getElem_map, List.getElem_range, Nat.testBit_or, Nat.testBit_two_pow]
      by_cases e : i = j
      · subst e; simp
      · simp [e]
    · simpa [bits] using h1

theorem bits_zero (n : Nat) : bits n 0 = Array.replicate n false := by
  apply Array.ext <;> simp [bits]

/-- Those of T wait for i. -/
def waitsFor (ops : Array Oper) (T : List Nat) (i : Nat) : Bool := T.all fun t => reach ops i 5 t

/-- Number i may be taken first. -/
def takeOk (ops : Array Oper) (m i : Nat) : Bool :=
  Region.noSelect ops && Region.free .any ops (bits ops.size m) i && (Region.ready .any ops (bits ops.size m)).contains i
end

section
variable {P : Program} {f n : Nat} {ops : Array Oper} {k : List Item} {R : Post} {S : World → Prop} {T : List Nat} {σ : Env} {w : World} {fuel m : Nat}

/-- Behind a region that draws: the rest of the code, or a panic where nothing is deferred. -/
def Qd (P : Program) (f : Nat) (k : List Item) (R : Post) : Exit → Act → World → Prop := fun e a w =>
  (e = .normal ∧ Runs P f k R a w) ∨ ∃ ch, e = .panic ch ∧ (∃ fn, P.funcs[f]? = some fn) ∧ a.defers = [] ∧ R.out (.panicked ch) w
theorem Qd.qn {e : Exit} {a : Act} (h : Qd P f k R e a w) : Qn P f k R e a w := by
  rcases h with h | ⟨ch, rfl, ⟨fn, hf⟩, hd, hR⟩
  · exact .inl h
  · exact .inr ⟨ch, rfl, fn, hf, .inl hd, by rw [hd]; exact hR⟩

def Dr (P : Program) (f n : Nat) (ops : Array Oper) (k : List Item) (R : Post) (S : World → Prop) (T : List Nat) (fuel m : Nat) (σ : Env) (w : World) : Prop :=
  ∀ a, Fr n σ a → a.defers = R.defers → Closed ops (bits ops.size m) → anyX P ops (Qd P f k R) S T fuel (bits ops.size m) a w

theorem rn_draw {id : Nat} (S : World → Prop) (T : List Nat) (hm : P.follows .mixedOrders = true) (h : Dr P f n ops k R S T ops.size 0 σ w.drew) : Rn P f n (.code (.region id ops true) :: k) R σ w :=
  fun a ha hd => by
    have h2 := h a ha hd (fun j o _ hj => by simp [bits_zero] at hj; by_cases hlt : j < ops.size <;> simp [hlt] at hj)
    rw [bits_zero] at h2
    have h3 : (Code.region id ops true).wp P (Qd P f k R) a w := wp_region_any hm (anyX_any (S := S) (T := T) _ _ _ _ h2)
    refine runs_region fun b k' cs => ?_
    obtain ⟨e, a', w', hq, harr⟩ := h3 b k' cs
    exact ⟨e, a', w', hq.qn, harr⟩

theorem qn_panic {d : Option Tmp} {v : Value} : ∀ c a w, Qd P f k R (.panic c) (a.put d v) w → Qd P f k R (.panic c) a w := fun _ _ _ h => by
  rcases h with ⟨h, _⟩ | ⟨ch, h, hf, hd, hR⟩
  · cases h
  · exact .inr ⟨ch, h, hf, by rwa [put_defers] at hd, hR⟩

theorem waitsFor_spec {i j : Nat} {listed : Array Bool} (h : waitsFor ops T i = true) (hc : Closed ops listed) (hi : listed.getD i false = false) (hj : j ∈ Region.ready .any ops listed) : j ∉ T := fun hm => by
  obtain ⟨_, oj, hoj, hall⟩ := mem_ready.1 hj
  have := reach_spec hc 5 j oj hoj hall (List.all_eq_true.1 h j hm)
  rw [hi] at this
  cases this

theorem dr_yields (i : Nat) {D : World → Prop} {o : Oper} {v : Value} (ho : ops[i]? = some o) (hk : takeOk ops m i = true) (hd : dstOk n o.dst = true)
    (hD : ∀ (listed : Array Bool) j, Closed ops listed → listed.getD i false = false → j ∈ Region.ready .any ops listed → ∀ w w', D w → (j ∉ T → S w → S w') → D w')
    (hv : ∀ a, Fr n σ a → YieldsIf P ops D o v a) (hw : D w) (h : Dr P f n ops k R S T fuel (m ||| 2 ^ i) (put σ o.dst v) w) : Dr P f n ops k R S T (fuel + 1) m σ w := fun a ha hdf hc => by
  simp only [takeOk, Bool.and_eq_true] at hk
  obtain ⟨⟨h1, h2⟩, h3⟩ := hk
  have h3' : i ∈ Region.ready .any ops (bits ops.size m) := by simpa using h3
  have hc' := hc.set h3'
  refine anyX_first (D := D) ho (Region.noSelect_spec h1) qn_panic hD fuel _ a w hc (fun j oj hj hne hun hno => Region.free_spec ho h2 j oj hj hne hun hno) h3' (hv a ha) hw ?_
  rw [bits_set] at hc' ⊢
  exact h _ (ha.put _ v hd) ((put_defers _ _ _).trans hdf) hc'

/-- What yields its value in every world of S is taken first, where those of T wait for it. -/
theorem dr_val (i : Nat) (v : Value) {o : Oper} (ho : ops[i]? = some o) (hk : (takeOk ops m i && waitsFor ops T i) = true) (hg : guardOf ops σ o.guard = some true) (hd : dstOk n o.dst = true)
    (hv : ∀ w, S w → Val P n σ o w v) (hS : S w) (h : Dr P f n ops k R S T fuel (m ||| 2 ^ i) (put σ o.dst v) w) : Dr P f n ops k R S T (fuel + 1) m σ w := by
  simp only [Bool.and_eq_true] at hk
  exact dr_yields (D := S) i ho hk.1 hd (fun listed j hc hi hj w w' hS h => h (waitsFor_spec hk.2 hc hi hj) hS) (fun a ha => .inl ⟨guardOf_spec ha hg, fun w hw => hv w hw a ha⟩) hS h

/-- What yields its value in every world. -/
theorem dr_any (i : Nat) (v : Value) {o : Oper} (ho : ops[i]? = some o) (hk : takeOk ops m i = true) (hg : guardOf ops σ o.guard = some true) (hd : dstOk n o.dst = true)
    (hv : ∀ w, Val P n σ o w v) (h : Dr P f n ops k R S T fuel (m ||| 2 ^ i) (put σ o.dst v) w) : Dr P f n ops k R S T (fuel + 1) m σ w :=
  dr_yields (D := fun _ => True) i ho hk hd (fun _ _ _ _ _ _ _ _ _ => trivial) (fun a ha => .inl ⟨guardOf_spec ha hg, fun w _ => hv w a ha⟩) trivial h

/-- What its guard passes over. -/
theorem dr_not (i : Nat) {o : Oper} (ho : ops[i]? = some o) (hk : takeOk ops m i = true) (hg : guardOf ops σ o.guard = some false) (hd : dstOk n o.dst = true)
    (h : Dr P f n ops k R S T fuel (m ||| 2 ^ i) (put σ o.dst undef) w) : Dr P f n ops k R S T (fuel + 1) m σ w :=
  dr_yields (D := fun _ => True) i ho hk hd (fun _ _ _ _ _ _ _ _ _ => trivial) (fun _ ha => .inr ⟨guardOf_spec ha hg, rfl⟩) trivial h

theorem dr_sub {σ' : Env} (hs : Sub σ' σ) (h : Dr P f n ops k R S T fuel m σ' w) : Dr P f n ops k R S T fuel m σ w := fun a ha hdf hc => h a (ha.sub hs) hdf hc

/-- The one that is left to come up now. -/
theorem dr_op (i : Nat) {o : Oper} (ho : ops[i]? = some o) (hr : Region.ready .any ops (bits ops.size m) = [i]) (hg : guardOf ops σ o.guard = some true) (hd : dstOk n o.dst = true)
    (h : OpTo P n σ o w fun v w' => (i ∉ T → S w') ∧ Dr P f n ops k R S T fuel (m ||| 2 ^ i) (put σ o.dst v) w') : Dr P f n ops k R S T (fuel + 1) m σ w := fun a ha hdf hc => by
  refine ⟨fun h0 => (by rw [hr] at h0; cases h0), fun j hj => ?_⟩
  have hc' := hc.set hj
  rw [hr] at hj
  obtain rfl : j = i := by simpa using hj
  unfold wpOp
  simp only [ho, guardOf_spec ha hg, if_true]
  refine .inl (h a ha _ _ fun v w' hv => ⟨fun ht _ => hv.1 ht, ?_⟩)
  rw [bits_set] at hc' ⊢
  exact hv.2 _ (ha.put _ v hd) ((put_defers _ _ _).trans hdf) hc'

/-- One of two comes up now. -/
theorem dr_op2 (i j : Nat) {oi oj : Oper} (hi : ops[i]? = some oi) (hj : ops[j]? = some oj) (hr : Region.ready .any ops (bits ops.size m) = [i, j])
    (hgi : guardOf ops σ oi.guard = some true) (hdi : dstOk n oi.dst = true) (hgj : guardOf ops σ oj.guard = some true) (hdj : dstOk n oj.dst = true)
    (h1 : OpTo P n σ oi w fun v w' => (i ∉ T → S w') ∧ Dr P f n ops k R S T fuel (m ||| 2 ^ i) (put σ oi.dst v) w')
    (h2 : OpTo P n σ oj w fun v w' => (j ∉ T → S w') ∧ Dr P f n ops k R S T fuel (m ||| 2 ^ j) (put σ oj.dst v) w') : Dr P f n ops k R S T (fuel + 1) m σ w := fun a ha hdf hc => by
  refine ⟨fun h0 => (by rw [hr] at h0; cases h0), fun x hx => ?_⟩
  have hc' := hc.set hx
  rw [hr] at hx
  rcases (by simpa using hx : x = i ∨ x = j) with rfl | rfl
  · unfold wpOp
    simp only [hi, guardOf_spec ha hgi, if_true]
    refine .inl (h1 a ha _ _ fun v w' hv => ⟨fun ht _ => hv.1 ht, ?_⟩)
    rw [bits_set] at hc' ⊢
    exact hv.2 _ (ha.put _ v hdi) ((put_defers _ _ _).trans hdf) hc'
  · unfold wpOp
    simp only [hj, guardOf_spec ha hgj, if_true]
    refine .inl (h2 a ha _ _ fun v w' hv => ⟨fun ht _ => hv.1 ht, ?_⟩)
    rw [bits_set] at hc' ⊢
    exact hv.2 _ (ha.put _ v hdj) ((put_defers _ _ _).trans hdf) hc'

def leftIn (n m : Nat) (T : List Nat) : Bool := (List.range n).all fun j => m.testBit j || T.contains j

theorem dr_switch (S' : World → Prop) (T' : List Nat) (hT : leftIn ops.size m T = true) (h : Dr P f n ops k R S' T' fuel m σ w) : Dr P f n ops k R S T fuel m σ w := fun a ha hdf hc =>
  anyX_switch fuel _ a w (fun j hj => by
    by_cases hlt : j < ops.size
    · have h1 := List.all_eq_true.1 hT j (List.mem_range.2 hlt)
      simp [bits, hlt] at hj
      simpa [hj] using h1
    · simp [bits, hlt] at hj) (h a ha hdf hc)

/-- What is left behind a point that several orders come to is shown once. -/
theorem dr_with (fuel' m' : Nat) (I : Env → World → Prop) (hcont : ∀ σ' w', I σ' w' → Dr P f n ops k R S T fuel' m' σ' w')
    (hmain : (∀ σ' w', I σ' w' → Dr P f n ops k R S T fuel' m' σ' w') → Dr P f n ops k R S T fuel m σ w) : Dr P f n ops k R S T fuel m σ w := hmain hcont

theorem dr_done (hr : Region.ready .any ops (bits ops.size m) = []) (h : Rn P f n k R σ w) : Dr P f n ops k R S T fuel m σ w := fun a ha hdf _ => by
  cases fuel with
  | zero => exact ⟨hr, .inl ⟨rfl, h a ha hdf⟩⟩
  | succ fuel => exact ⟨fun _ => .inl ⟨rfl, h a ha hdf⟩, by rw [hr]; simp⟩

/-- The one that is left to come up now, that may panic, in a function that has deferred nothing. -/
theorem dr_opE (i : Nat) {o : Oper} {fn : Func} {K Kp : Value → World → Prop} (hf : P.funcs[f]? = some fn) (ho : ops[i]? = some o) (hr : Region.ready .any ops (bits ops.size m) = [i]) (hg : guardOf ops σ o.guard = some true) (hd : dstOk n o.dst = true)
    (h : OpE P n σ o w (fun v w' => (i ∉ T → S w') ∧ Dr P f n ops k (endR K Kp) S T fuel (m ||| 2 ^ i) (put σ o.dst v) w') Kp) : Dr P f n ops k (endR K Kp) S T (fuel + 1) m σ w := fun a ha hdf hc => by
  refine ⟨fun h0 => (by rw [hr] at h0; cases h0), fun j hj => ?_⟩
  have hc' := hc.set hj
  rw [hr] at hj
  obtain rfl : j = i := by simpa using hj
  unfold wpOp
  simp only [ho, guardOf_spec ha hg, if_true]
  refine .inl (h a ha _ _ (fun v w' hv => ⟨fun ht _ => hv.1 ht, ?_⟩) fun v w' hv => .inr ⟨_, rfl, ⟨fn, hf⟩, hdf, .inr ⟨v, rfl, hv⟩⟩)
  rw [bits_set] at hc' ⊢
  exact hv.2 _ (ha.put _ v hd) ((put_defers _ _ _).trans hdf) hc'
end

/-! ### A function that is deferred, and recovers -/
/-- A deferred function's frame above a frame that is in mode u. -/
def RnD (P : Program) (f n : Nat) (todo : List Item) (RD : Ending → FrameMode → World → Prop) (u : FrameMode) (σ : Env) (w : World) : Prop :=
  ∀ a, Fr n σ a → a.defers = [] → ∀ (b c : Frame) (cs : List Frame), b.fn = f → b.kind = .deferred → b.roundOf = none → c.mode = u →
    ∃ e u' w' fr, RD e u' w' ∧ Comes P (lone (b.at a todo) (c :: cs) w) (lone fr ({ c with mode := u' } :: cs) w') e ∧ fr.kind = .deferred ∧ fr.going P w' e

section
variable {P : Program} {f n : Nat} {k : List Item} {RD : Ending → FrameMode → World → Prop} {u : FrameMode} {σ : Env} {w : World}

theorem callsD_of {fn : Func} {c : Code} {args : List Value} (n : Nat) (hf : P.funcs[f]? = some fn) (hb : fn.body = some c) (hn : fn.ntmps = n) (hl : args.length ≤ n)
    (h : RnD P f n [.code c] RD u (envOf args 0) w) : CallsD P f args.toArray u w RD := by
  intro c₀ cs hu
  let b : Frame := { (default : Frame) with fn := f, kind := .deferred }
  have henter : Frame.enter P f args.toArray .deferred =
      b.at { tmps := args.toArray ++ Array.replicate (fn.ntmps - args.toArray.size) undef, defers := [] } [.code c] := by
    simp [Frame.enter, Frame.at, hf, hb, b]
  have := h { tmps := args.toArray ++ Array.replicate (fn.ntmps - args.toArray.size) undef, defers := [] }
    ⟨by simp [hn]; omega, fun t v hv => by
      have := (look_envOf args 0 t v hv).2
      simp only [Nat.sub_zero] at this
      have hlt : t < args.length := (List.getElem?_eq_some_iff.1 this).1
      rw [Array.getElem?_append_left (by simpa using hlt)]
      simpa using this⟩ rfl b c₀ cs rfl rfl rfl hu
  rwa [← henter] at this

theorem rnD_seq {x y : Code} (h : RnD P f n (.code x :: .code y :: k) RD u σ w) : RnD P f n (.code (.seq x y) :: k) RD u σ w := fun a ha hd b c cs h1 h2 h3 h4 =>
  let ⟨e, u', w', fr, hR, hs, r⟩ := h a ha hd b c cs h1 h2 h3 h4; ⟨e, u', w', fr, hR, Comes.of_steps (.one step_seq) hs, r⟩

/-- What a deferred function's code comes to, where it leaves the frame beneath as it is. -/
def defR (RD : Ending → FrameMode → World → Prop) (u : FrameMode) : Post := ⟨.deferred, [], fun e w => RD e u w⟩
theorem rnD_of {todo : List Item} (h : Rn P f n todo (defR RD u) σ w) : RnD P f n todo RD u σ w := fun a ha hd b c cs h1 h2 _ h4 => by
  obtain ⟨e, w', fr, hR, hs, _, hk, hg⟩ := h a ha hd b (c :: cs) h1 h2
  have hc : ({ c with mode := u } : Frame) = c := by subst h4; rfl
  refine ⟨e, u, w', fr, hR, by rw [hc]; exact hs, ?_, hg⟩
  cases e with
  | returned v => exact hk
  | panicked ch => exact hk.elim id fun h => by cases h
  | outgrown => exact hk.elim id fun h => by cases h

theorem rnD_recover_of {id : Nat} {o : Oper} {l : List Oper} {v : Value} {u' : FrameMode} (hg : guardOf (o :: l).toArray σ o.guard = some true) (hd : dstOk n o.dst = true)
    (hrun : ∀ a, Fr n σ a → (execOp a.eval o).run P w = .ok .recover w)
    (hrec : ∀ (c : Frame) (cs : List Frame), c.mode = u → (recoverD (c :: cs)).getD (.nilIface, c :: cs) = (v, { c with mode := u' } :: cs))
    (h : Pl P f n (o :: l).toArray k (defR RD u') l (put σ o.dst v) w) : RnD P f n (.code (.region id (o :: l).toArray false) :: k) RD u σ w := fun a ha hdf b c cs h1 h2 h3 h4 => by
  have hrest : wpOps P (o :: l).toArray (Qn P f k (defR RD u')) (List.range' 1 l.length) (a.put o.dst v) w := by
    rw [wpOps_eq_wpList l 1 (fun j => by simp [Nat.add_comm 1 j])]
    exact h _ (ha.put _ v hd) ((put_defers _ _ _).trans hdf)
  have hc' : ({ c with mode := u' } : Frame).mode = u' := rfl
  obtain ⟨e, a', w', hq, harr⟩ := wp_ops _ _ _ hrest b k ({ c with mode := u' } :: cs)
  obtain ⟨e, w'', fr, hR, hs, _, hk, hgo⟩ := runs_arrives hq harr h1 h2
  have ho : ((o :: l).toArray)[0]? = some o := by simp
  have hw : Region.wanted o (yielded (o :: l).toArray a.tmps) = true := guardOf_spec ha hg
  have hrange : List.range (o :: l).toArray.size = 0 :: List.range' 1 l.length := by
    rw [List.range_eq_range']
    simp [List.range'_succ]
  have hgs := stepG_op (P := P) (b := b) (k := k) (cs := c :: cs) (w := w) (rest := List.range' 1 l.length) ho hw
  have hfin : ∀ v, (b.at a (.inRegion (o :: l).toArray (0 :: List.range' 1 l.length) :: k)).finish v = b.at (a.put o.dst v) (.inRegion (o :: l).toArray (List.range' 1 l.length) :: k) := by
    intro v; rw [Frame.finish_at, ho]; rfl
  have hkd : (b.at a (.inRegion (o :: l).toArray (0 :: List.range' 1 l.length) :: k)).kind = .deferred := h2
  have htr := tryRecover_deferred hkd (c :: cs)
  have hr := hrun a ha
  have hstep : step P (lone (b.at a (.inRegion (o :: l).toArray (0 :: List.range' 1 l.length) :: k)) (c :: cs) w) = .next (lone (b.at (a.put o.dst v) (.inRegion (o :: l).toArray (List.range' 1 l.length) :: k)) ({ c with mode := u' } :: cs) w) := by
    refine step_lone_go ?_
    have hrec' := hrec c cs h4
    cases hx : recoverD (c :: cs) with
    | some p =>
      obtain ⟨v', cs'⟩ := p
      rw [hx] at hrec'
      simp only [Option.getD_some, Prod.mk.injEq] at hrec'
      obtain ⟨rfl, rfl⟩ := hrec'
      rw [hgs, ← hfin]
      simp only [Frame.at] at htr ⊢
      simp [stepG.apply, hr, htr, hx]
    | none =>
      rw [hx] at hrec'
      simp only [Option.getD_none, Prod.mk.injEq] at hrec'
      obtain ⟨rfl, he⟩ := hrec'
      rw [← he, hgs, ← hfin]
      simp only [Frame.at] at htr ⊢
      simp [stepG.apply, hr, htr, hx]
  refine ⟨e, u', w'', fr, hR, Comes.of_steps (.head step_region (by rw [hrange]; exact .one hstep)) hs, ?_, hgo⟩
  cases e with
  | returned v => exact hk
  | panicked ch => exact hk.elim (fun h => h) fun h => by cases h
  | outgrown => exact hk.elim (fun h => h) fun h => by cases h

/-- It recovers the one panic. -/
theorem rnD_recover {id : Nat} {o : Oper} {l : List Oper} (v : Value) (hu : u = .panicking (pan v)) (hg : guardOf (o :: l).toArray σ o.guard = some true) (hd : dstOk n o.dst = true)
    (hrun : ∀ a, Fr n σ a → (execOp a.eval o).run P w = .ok .recover w)
    (h : Pl P f n (o :: l).toArray k (defR RD (.panicking [{ v := v, recovered := true }])) l (put σ o.dst v) w) : RnD P f n (.code (.region id (o :: l).toArray false) :: k) RD u σ w :=
  rnD_recover_of hg hd hrun (fun c cs hc => by
    subst hu
    simp [recoverD, hc, pan]) h
/-- There is none. -/
theorem rnD_norec {id : Nat} {o : Oper} {l : List Oper} (hu : u = .returning) (hg : guardOf (o :: l).toArray σ o.guard = some true) (hd : dstOk n o.dst = true)
    (hrun : ∀ a, Fr n σ a → (execOp a.eval o).run P w = .ok .recover w)
    (h : Pl P f n (o :: l).toArray k (defR RD .returning) l (put σ o.dst .nilIface) w) : RnD P f n (.code (.region id (o :: l).toArray false) :: k) RD u σ w :=
  rnD_recover_of hg hd hrun (fun c cs hc => by
    subst hu
    have he : ({ c with mode := .returning } : Frame) = c := by rw [← hc]
    simp [recoverD, hc, he]) h
end
end E
end Go.Proofs.YtmplkogkphmmjagGreat
