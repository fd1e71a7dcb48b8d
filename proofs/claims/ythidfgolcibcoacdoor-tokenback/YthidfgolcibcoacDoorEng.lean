/- The engine of this seat's proofs: a frame is known by a list of its slots; a region that draws its order is walked once, whatever the order; a call is met by what it returns. -/
import Derived.Orders
import Derived.Tactics
import Derived.Deep.AppendLies
import Derived.Deep.MidRow
import Derived.KernelRfl
namespace Go.Proofs.YthidfgolcibcoacDoor
set_option maxRecDepth 20000
set_option maxHeartbeats 4000000
namespace E

abbrev Env := List (Nat × Value)

def look : Env → Nat → Option Value
  | [], _ => none
  | (s, v) :: r, t => match Nat.beq s t with
    | true => some v
    | false => look r t

def ev (σ : Env) : Operand → Option Value
  | .tmp t => look σ t
  | .const v => some v
  | .global g => some (.pointer (some ⟨g, 0, none⟩))
  | .func f => some (.func (.func f) #[] #[])

def evs (σ : Env) : List Operand → Option (List Value)
  | [] => some []
  | x :: r => match ev σ x with
    | none => none
    | some v => match evs σ r with
      | none => none
      | some vs => some (v :: vs)

/-- What is known of a frame: how many slots it has, that nothing is deferred, and what the listed slots hold. -/
structure Fr (n : Nat) (σ : Env) (a : Act) : Prop where
  size : a.tmps.size = n
  defers : a.defers = []
  has : ∀ t v, look σ t = some v → a.tmps[t]? = some v

def put (σ : Env) (d : Option Tmp) (v : Value) : Env :=
  match d with
  | some d => (d, v) :: σ
  | none => σ

def dstOk (n : Nat) (d : Option Tmp) : Bool :=
  match d with
  | some d => Nat.blt d n
  | none => true

theorem look_cons (p : Nat × Value) (r : Env) (t : Nat) : look (p :: r) t = if p.1 = t then some p.2 else look r t := by
  obtain ⟨s, v⟩ := p
  by_cases h : s = t
  · subst h
    simp [look]
  · have hb : Nat.beq s t = false := by
      cases hb : Nat.beq s t with
      | false => rfl
      | true => exact absurd (Nat.eq_of_beq_eq_true hb) h
    simp [look, hb, h]

theorem Fr.put {n : Nat} {σ : Env} {a : Act} (h : Fr n σ a) (d : Option Tmp) (v : Value) (hd : dstOk n d = true) : Fr n (E.put σ d v) (a.put d v) := by
  cases d with
  | none => exact h
  | some d =>
    have hlt : d < n := by simpa [dstOk, Nat.blt_eq] using hd
    refine ⟨by simpa [Act.put] using h.size, h.defers, fun t u hu => ?_⟩
    simp only [E.put, look_cons] at hu
    by_cases e : d = t
    · subst e
      rw [if_pos rfl] at hu
      cases hu
      simp [Act.put, h.size, hlt]
    · rw [if_neg e] at hu
      simp only [Act.put]
      rw [Array.getElem?_setIfInBounds_ne e]
      exact h.has t u hu

theorem Fr.eval {n : Nat} {σ : Env} {a : Act} (h : Fr n σ a) {x : Operand} {v : Value} (hx : ev σ x = some v) : a.eval x = v := by
  cases x with
  | tmp t =>
    have := h.has t v hx
    simp [Act.eval, this]
  | const u => simpa [ev, Act.eval] using hx
  | global g => simpa [ev, Act.eval] using hx
  | func f => simpa [ev, Act.eval] using hx

theorem Fr.evals {n : Nat} {σ : Env} {a : Act} (h : Fr n σ a) : ∀ {xs : List Operand} {vs : List Value}, evs σ xs = some vs → xs.map a.eval = vs
  | [], vs, hv => by simp [evs] at hv; subst hv; rfl
  | x :: r, vs, hv => by
    simp only [evs] at hv
    cases hx : ev σ x with
    | none => simp [hx] at hv
    | some v =>
      cases hr : evs σ r with
      | none => simp [hx, hr] at hv
      | some us =>
        simp only [hx, hr, Option.some.injEq] at hv
        subst hv
        simp [h.eval hx, h.evals hr]

def Sub : Env → Env → Prop
  | [], _ => True
  | p :: r, σ => look σ p.1 = some p.2 ∧ Sub r σ

theorem Sub.look {σ : Env} : ∀ {σ' : Env}, Sub σ' σ → ∀ t v, E.look σ' t = some v → E.look σ t = some v
  | [], _, t, v, h => by simp [E.look] at h
  | p :: r, hs, t, v, h => by
    rw [look_cons] at h
    by_cases e : p.1 = t
    · rw [if_pos e] at h
      cases h
      rw [← e]; exact hs.1
    · rw [if_neg e] at h
      exact Sub.look hs.2 t v h

theorem Fr.sub {n : Nat} {σ σ' : Env} {a : Act} (h : Fr n σ a) (hs : Sub σ' σ) : Fr n σ' a := ⟨h.size, h.defers, fun t v hv => h.has t v (hs.look t v hv)⟩

/-! ### Running the code of one function -/

def Runs (P : Program) (f : FuncId) (todo : List Item) (R : Value → World → Prop) (a : Act) (w : World) : Prop :=
  ∀ (b : Frame) (cs : List Frame), b.fn = f → b.kind = .normal →
    ∃ v w' fr, R v w' ∧ Steps P (lone (b.at a todo) cs w) (lone fr cs w') ∧ fr.fn = f ∧ fr.leaving P w' (.returned v)

def Rn (P : Program) (f n : Nat) (todo : List Item) (R : Value → World → Prop) (σ : Env) (w : World) : Prop := ∀ a, Fr n σ a → Runs P f todo R a w

/-- It returns, and what it returns, with the world behind it, is in R. -/
def Ret (P : Program) (f : FuncId) (args : List Value) (w : World) (R : Value → World → Prop) : Prop :=
  Calls P f args.toArray w fun e w' => ∃ v, e = .returned v ∧ R v w'

theorem Ret.mono {P : Program} {f : FuncId} {args : List Value} {w : World} {R R' : Value → World → Prop} (h : Ret P f args w R) (hr : ∀ v w', R v w' → R' v w') : Ret P f args w R' :=
  Calls.mono h fun _ _ ⟨v, he, hR⟩ => ⟨v, he, hr _ _ hR⟩

def envOf : List Value → Nat → Env
  | [], _ => []
  | v :: r, i => (i, v) :: envOf r (i + 1)

theorem look_envOf : ∀ (l : List Value) (i t : Nat) (v : Value), look (envOf l i) t = some v → i ≤ t ∧ l[t - i]? = some v
  | [], _, _, _, h => by simp [envOf, look] at h
  | u :: r, i, t, v, h => by
    simp only [envOf, look_cons] at h
    by_cases e : i = t
    · subst e; simp at h; subst h; simp
    · rw [if_neg e] at h
      have := look_envOf r (i + 1) t v h
      refine ⟨by omega, ?_⟩
      have e2 : t - i = (t - (i + 1)) + 1 := by omega
      rw [e2, List.getElem?_cons_succ]; exact this.2

theorem ret_of {P : Program} {f : FuncId} {fn : Func} {c : Code} {args : List Value} {w : World} {R : Value → World → Prop} (n : Nat)
    (hf : P.funcs[f]? = some fn) (hb : fn.body = some c) (hn : fn.ntmps = n) (hl : args.length ≤ n)
    (h : Rn P f n [.code c] R (envOf args 0) w) : Ret P f args w R := by
  intro cs
  let b : Frame := { (default : Frame) with fn := f, kind := .normal }
  have henter : Frame.enter P f args.toArray .normal =
      b.at { tmps := args.toArray ++ Array.replicate (fn.ntmps - args.toArray.size) undef, defers := [] } [.code c] := by
    simp [Frame.enter, Frame.at, hf, hb, b]
  obtain ⟨v, w', fr, hR, hs, hfn, hl'⟩ := h { tmps := args.toArray ++ Array.replicate (fn.ntmps - args.toArray.size) undef, defers := [] }
    ⟨by simp [hn]; omega, rfl, fun t v hv => by
      have := (look_envOf args 0 t v hv).2
      simp only [Nat.sub_zero] at this
      have hlt : t < args.length := (List.getElem?_eq_some_iff.1 this).1
      rw [Array.getElem?_append_left (by simpa using hlt)]
      simpa using this⟩ b cs rfl rfl
  rw [← henter] at hs
  exact ⟨.returned v, w', fr, ⟨v, rfl, hR⟩, hs, hfn, hl'⟩

section
variable {P : Program} {f n : Nat} {k : List Item} {R : Value → World → Prop} {σ : Env} {w : World}

theorem Runs.step {a : Act} {todo todo' : List Item} (hs : ∀ (b : Frame) cs, step P (lone (b.at a todo) cs w) = .next (lone (b.at a todo') cs w)) (h : Runs P f todo' R a w) : Runs P f todo R a w :=
  fun b cs hb hk => let ⟨v, w', fr, hR, hst, r⟩ := h b cs hb hk; ⟨v, w', fr, hR, .head (hs b cs) hst, r⟩

theorem rn_seq {x y : Code} (h : Rn P f n (.code x :: .code y :: k) R σ w) : Rn P f n (.code (.seq x y) :: k) R σ w := fun a ha => (h a ha).step fun _ _ => step_seq
theorem rn_skip (h : Rn P f n k R σ w) : Rn P f n (.code .skip :: k) R σ w := fun a ha => (h a ha).step fun _ _ => step_skip
theorem rn_block {id : Nat} {c : Code} (h : Rn P f n (.code c :: .inBlock id :: k) R σ w) : Rn P f n (.code (.block id c) :: k) R σ w := fun a ha => (h a ha).step fun _ _ => step_block
theorem rn_inBlock {id : Nat} (h : Rn P f n k R σ w) : Rn P f n (.inBlock id :: k) R σ w := fun a ha => (h a ha).step fun _ _ => step_inBlock
theorem rn_exit {id : Nat} {k' : List Item} (hk : exitTo id k = some k') (h : Rn P f n k' R σ w) : Rn P f n (.code (.exit id) :: k) R σ w := fun a ha => (h a ha).step fun _ _ => step_exit hk
theorem rn_loop {c : Code} (h : Rn P f n (.code c :: .inLoop c :: k) R σ w) : Rn P f n (.code (.loop c) :: k) R σ w := fun a ha => (h a ha).step fun _ _ => step_loop
theorem rn_inLoop {c : Code} (h : Rn P f n (.code c :: .inLoop c :: k) R σ w) : Rn P f n (.inLoop c :: k) R σ w := fun a ha => (h a ha).step fun _ _ => step_inLoop
theorem rn_cond {c : Operand} {x y : Code} {t : Bool} (hc : ev σ c = some (.bool t)) (h : Rn P f n (.code (if t then x else y) :: k) R σ w) : Rn P f n (.code (.cond c x y) :: k) R σ w :=
  fun a ha => (h a ha).step fun _ _ => step_cond (ha.eval hc)
theorem rn_true {c : Operand} {x y : Code} (hc : ev σ c = some (.bool true)) (h : Rn P f n (.code x :: k) R σ w) : Rn P f n (.code (.cond c x y) :: k) R σ w := rn_cond hc h
theorem rn_false {c : Operand} {x y : Code} (hc : ev σ c = some (.bool false)) (h : Rn P f n (.code y :: k) R σ w) : Rn P f n (.code (.cond c x y) :: k) R σ w := rn_cond hc h
theorem rn_sub {todo : List Item} {σ' : Env} (hs : Sub σ' σ) (h : Rn P f n todo R σ' w) : Rn P f n todo R σ w := fun a ha => h a (ha.sub hs)

/-- What is left behind a point that several ways come to is shown once. -/
theorem rn_with {c : Item} (I : Env → World → Prop) (hcont : ∀ σ' w', I σ' w' → Rn P f n k R σ' w') (hmain : (∀ σ' w', I σ' w' → Rn P f n k R σ' w') → Rn P f n (c :: k) R σ w) : Rn P f n (c :: k) R σ w := hmain hcont

/-- A loop: by a number that gets less. -/
theorem rn_ind {c : Code} (I : Nat → Env → World → Prop) (m : Nat) (σ' : Env) (hs : Sub σ' σ) (h0 : I m σ' w)
    (hstep : ∀ m σ w, (∀ m' σ' w', m' < m → I m' σ' w' → Rn P f n (.inLoop c :: k) R σ' w') → I m σ w → Rn P f n (.code c :: .inLoop c :: k) R σ w) :
    Rn P f n (.code (.loop c) :: k) R σ w := by
  have key : ∀ m σ w, I m σ w → Rn P f n (.code c :: .inLoop c :: k) R σ w := by
    intro m
    induction m using Nat.strongRecOn with
    | _ m ih => exact fun σ w hI => hstep m σ w (fun m' σ' w' hlt hI' => rn_inLoop (ih m' hlt σ' w' hI')) hI
  exact rn_sub hs (rn_loop (key m σ' w h0))

/-! ### The end -/
theorem runs_ret {a : Act} {fn : Func} {v : Value} (hf : P.funcs[f]? = some fn) (hd : a.defers = []) (hr : (results fn a.tmps).run P w = .ok v w) (hR : R v w) : Runs P f (.code .ret :: k) R a w :=
  fun b _ hb hk => ⟨v, w, _, hR, .one step_ret, hb, rfl, hd, hk, fn, by simpa [Frame.at, hb] using hf, hr⟩
theorem runs_end {a : Act} {fn : Func} {v : Value} (hf : P.funcs[f]? = some fn) (hd : a.defers = []) (hr : (results fn a.tmps).run P w = .ok v w) (hR : R v w) : Runs P f [] R a w :=
  fun b _ hb hk => ⟨v, w, _, hR, .one step_end, hb, rfl, hd, hk, fn, by simpa [Frame.at, hb] using hf, hr⟩

/-- What a function's results are, out of its slots and its cells. -/
def Res (P : Program) (σ : Env) (w : World) (rs : Array ResultVar) (v : Value) : Prop :=
  (∃ t, rs = #[.tmp t] ∧ look σ t = some v) ∨
  (rs = #[] ∧ v = .tuple #[]) ∨
  (∃ t ty ad, rs = #[.cell t ty] ∧ look σ t = some (.pointer (some ad)) ∧ (loadVar ty ad).run P w = .ok v w) ∨
  (∃ t ty ad u x y, rs = #[.cell t ty, .tmp u] ∧ look σ t = some (.pointer (some ad)) ∧ (loadVar ty ad).run P w = .ok x w ∧ look σ u = some y ∧ v = .tuple #[x, y]) ∨
  (∃ t u x y, rs = #[.tmp t, .tmp u] ∧ look σ t = some x ∧ look σ u = some y ∧ v = .tuple #[x, y])

theorem Fr.getD {a : Act} (h : Fr n σ a) {t : Nat} {v : Value} (hv : look σ t = some v) : a.tmps.getD t undef = v := by simp [h.has t v hv]

theorem Res.run {a : Act} {fn : Func} {v : Value} (ha : Fr n σ a) (h : Res P σ w fn.results v) : (results fn a.tmps).run P w = .ok v w := by
  rcases h with ⟨t, hr, hl⟩ | ⟨hr, rfl⟩ | ⟨t, ty, ad, hr, hl, hv⟩ | ⟨t, ty, ad, u, x, y, hr, hl, hx, hu, rfl⟩ | ⟨t, u, x, y, hr, hx, hy, rfl⟩
  · simp only [results, hr]
    simp [ha.has t v hl]
  · simp only [results, hr]
    simp
  · simp only [results, hr]
    simp [ha.has t _ hl, asAddr, hv]
  · simp only [results, hr]
    simp [ha.has t _ hl, ha.has u _ hu, asAddr, hx]
  · simp only [results, hr]
    simp [ha.has t _ hx, ha.has u _ hy]

theorem rn_ret {fn : Func} {v : Value} (hf : P.funcs[f]? = some fn) (hr : Res P σ w fn.results v) (hR : R v w) : Rn P f n (.code .ret :: k) R σ w :=
  fun _ ha => runs_ret hf ha.defers (hr.run ha) hR
theorem rn_end {fn : Func} {v : Value} (hf : P.funcs[f]? = some fn) (hr : Res P σ w fn.results v) (hR : R v w) : Rn P f n [] R σ w :=
  fun _ ha => runs_end hf ha.defers (hr.run ha) hR

/-! ### Regions -/
/-- Behind a region: the rest of the code. -/
def Qn (P : Program) (f : Nat) (k : List Item) (R : Value → World → Prop) : Exit → Act → World → Prop := fun e a w => e = .normal ∧ Runs P f k R a w

theorem runs_region {id : Nat} {ops : Array Oper} {d : Bool} {a : Act} (h : (Code.region id ops d).wp P (Qn P f k R) a w) : Runs P f (.code (.region id ops d) :: k) R a w := by
  intro b cs hb hk
  obtain ⟨e, a', w', ⟨rfl, hr⟩, harr⟩ := h b k cs
  obtain ⟨v, w'', fr, hR, hs, r⟩ := hr b cs hb hk
  exact ⟨v, w'', fr, hR, Steps.trans harr hs, r⟩

def guardOf (ops : Array Oper) (σ : Env) (g : Option (Nat × Bool)) : Option Bool :=
  match g with
  | none => some true
  | some (j, want) => match (ops[j]?).bind (·.dst) with
    | none => none
    | some t => match look σ t with
      | some (.bool b) => some (b == want)
      | some (.tuple _) => some false
      | _ => none

theorem guardOf_spec {ops : Array Oper} {a : Act} {o : Oper} {b : Bool} (ha : Fr n σ a) (h : guardOf ops σ o.guard = some b) : Region.wanted o (yielded ops a.tmps) = b := by
  unfold Region.wanted
  unfold guardOf at h
  split at h
  · rename_i hg; rw [hg]; simpa using h
  · rename_i j want hg
    rw [hg]
    split at h
    · cases h
    · rename_i t ht
      simp only [yielded, ht, Option.bind_some]
      split at h
      · rename_i b' hb'
        rw [ha.has t _ hb']
        simpa using h
      · rename_i vs hb'
        rw [ha.has t _ hb']
        simpa using h
      · cases h

/-- From these slots, in this world, the operation comes to a value and a world in K. -/
def OpTo (P : Program) (n : Nat) (σ : Env) (o : Oper) (w : World) (K : Value → World → Prop) : Prop :=
  ∀ a, Fr n σ a → ∀ (next : Act → World → Prop) (Q : Exit → Act → World → Prop), (∀ v w', K v w' → next (a.put o.dst v) w') → o.wp P a w next Q

/-- In this world the operation yields this value, and leaves the world as it is. -/
def Val (P : Program) (n : Nat) (σ : Env) (o : Oper) (w : World) (v : Value) : Prop := ∀ a, Fr n σ a → (execOp a.eval o).run P w = .ok (.value v) w

theorem Val.opTo {o : Oper} {v : Value} {K : Value → World → Prop} (h : Val P n σ o w v) (hK : K v w) : OpTo P n σ o w K := fun a ha next Q hn => by
  simp only [Oper.wp, h a ha, Oper.upon]
  exact hn v w hK

theorem opTo_run {o : Oper} {v : Value} {w' : World} {K : Value → World → Prop} (h : ∀ a, Fr n σ a → (execOp a.eval o).run P w = .ok (.value v) w') (hK : K v w') : OpTo P n σ o w K := fun a ha next Q hn => by
  simp only [Oper.wp, h a ha, Oper.upon]
  exact hn v w' hK

theorem opTo_skip {o : Oper} {w' : World} {K : Value → World → Prop} (h : ∀ a, Fr n σ a → (execOp a.eval o).run P w = .ok .skip w') (hK : K undef w') : OpTo P n σ o w K := fun a ha next Q hn => by
  simp only [Oper.wp, h a ha, Oper.upon]
  exact hn undef w' hK

/-- A region in the order of its text. -/
def Pl (P : Program) (f n : Nat) (ops : Array Oper) (k : List Item) (R : Value → World → Prop) (l : List Oper) (σ : Env) (w : World) : Prop := ∀ a, Fr n σ a → wpList P ops (Qn P f k R) l a w

theorem rn_plain {id : Nat} {l : List Oper} (h : Pl P f n l.toArray k R l σ w) : Rn P f n (.code (.region id l.toArray false) :: k) R σ w :=
  fun a ha => runs_region (wp_region_lit (h a ha))

theorem pl_nil {ops : Array Oper} (h : Rn P f n k R σ w) : Pl P f n ops k R [] σ w := fun a ha => ⟨rfl, h a ha⟩

theorem pl_op {ops : Array Oper} {o : Oper} {l : List Oper} (hg : guardOf ops σ o.guard = some true) (hd : dstOk n o.dst = true)
    (h : OpTo P n σ o w fun v w' => Pl P f n ops k R l (put σ o.dst v) w') : Pl P f n ops k R (o :: l) σ w := fun a ha => by
  unfold wpList
  rw [if_pos (guardOf_spec ha hg)]
  exact .inl (h a ha _ _ fun v w' hv => hv _ (ha.put _ v hd))

theorem pl_val {ops : Array Oper} {o : Oper} {l : List Oper} (v : Value) (hg : guardOf ops σ o.guard = some true) (hd : dstOk n o.dst = true)
    (hv : Val P n σ o w v) (h : Pl P f n ops k R l (put σ o.dst v) w) : Pl P f n ops k R (o :: l) σ w := pl_op hg hd (hv.opTo h)

theorem pl_not {ops : Array Oper} {o : Oper} {l : List Oper} (hg : guardOf ops σ o.guard = some false) (hd : dstOk n o.dst = true)
    (h : Pl P f n ops k R l (put σ o.dst undef) w) : Pl P f n ops k R (o :: l) σ w := fun a ha => by
  unfold wpList
  rw [if_neg (by rw [guardOf_spec ha hg]; simp)]
  exact h _ (ha.put _ _ hd)
end

/-! ### A region that draws its order -/
section
variable {P : Program} {ops : Array Oper} {Q : Exit → Act → World → Prop} {S : World → Prop} {T : List Nat}

/-- Whatever order is drawn from here on; every operation but those of T keeps S. -/
def anyX (P : Program) (ops : Array Oper) (Q : Exit → Act → World → Prop) (S : World → Prop) (T : List Nat) : Nat → Array Bool → Act → World → Prop
  | 0, listed, a, w => Region.ready .any ops listed = [] ∧ Q .normal a w
  | fuel + 1, listed, a, w =>
    (Region.ready .any ops listed = [] → Q .normal a w) ∧
    ∀ i ∈ Region.ready .any ops listed, wpOp P ops Q i (fun a' w' => (i ∉ T → S w → S w') ∧ anyX P ops Q S T fuel (listed.setIfInBounds i true) a' w') a w

theorem anyX_any : ∀ (fuel : Nat) (listed : Array Bool) (a : Act) (w : World), anyX P ops Q S T fuel listed a w → wpAny P .any ops Q fuel listed a w
  | 0, _, _, _, h => h
  | fuel + 1, _, _, _, h => ⟨h.1, fun i hi => wpOp_mono (fun a' w' h' => anyX_any fuel _ a' w' h'.2) (h.2 i hi)⟩

/-- What has come up has all come up that it waits for. -/
def Closed (ops : Array Oper) (listed : Array Bool) : Prop :=
  ∀ j o, ops[j]? = some o → listed.getD j false = true → ∀ e ∈ o.after, Region.binds .any e = true → listed.getD e.on false = true

theorem Closed.set {listed : Array Bool} (h : Closed ops listed) {i : Nat} (hi : i ∈ Region.ready .any ops listed) : Closed ops (listed.setIfInBounds i true) := by
  intro j o ho hj e he hb
  obtain ⟨_, oi, hoi, hall⟩ := mem_ready.1 hi
  refine getD_set_true ?_
  by_cases hji : i = j
  · subst hji
    rw [hoi] at ho
    cases ho
    exact hall e he hb
  · rw [getD_set_ne false hji] at hj
    exact h j o ho hj e he hb

/-- t waits for i, through others at most. -/
def reach (ops : Array Oper) (i : Nat) : Nat → Nat → Bool
  | 0, _ => false
  | fuel + 1, t => match ops[t]? with
    | some o => o.after.any fun e => Region.binds .any e && (e.on == i || reach ops i fuel e.on)
    | none => false

theorem reach_spec {listed : Array Bool} {i : Nat} (hc : Closed ops listed) : ∀ (fuel t : Nat) (o : Oper), ops[t]? = some o → (∀ e ∈ o.after, Region.binds .any e = true → listed.getD e.on false = true) → reach ops i fuel t = true → listed.getD i false = true
  | 0, _, _, _, _, h => by simp [reach] at h
  | fuel + 1, t, o, ho, hall, h => by
    unfold reach at h
    simp only [ho] at h
    obtain ⟨e, he, hb⟩ := Array.any_eq_true'.1 h
    simp only [Bool.and_eq_true, Bool.or_eq_true, beq_iff_eq] at hb
    have hl := hall e he hb.1
    rcases hb.2 with h1 | h1
    · rw [← h1]; exact hl
    · cases hoe : ops[e.on]? with
      | none =>
        cases fuel with
        | zero => simp [reach] at h1
        | succ fuel => simp [reach, hoe] at h1
      | some oe => exact reach_spec hc fuel e.on oe hoe (hc e.on oe hoe hl) h1

/-- What yields its value in every world of D may be taken first, if whatever may come before it keeps D. -/
theorem anyX_first {D : World → Prop} {i : Nat} {oi : Oper} {v : Value} (hi : ops[i]? = some oi) (hsel : ∀ (j : Nat) (o : Oper) cs b, ops[j]? = some o → o.op ≠ .select cs b)
    (hQ : ∀ c a w, Q (.panic c) (a.put oi.dst v) w → Q (.panic c) a w)
    (hDj : ∀ (listed : Array Bool) j, Closed ops listed → listed.getD i false = false → j ∈ Region.ready .any ops listed → ∀ w w', D w → (j ∉ T → S w → S w') → D w') :
    ∀ (fuel : Nat) (listed : Array Bool) (a : Act) (w : World), Closed ops listed →
      (∀ j oj, ops[j]? = some oj → j ≠ i → listed.getD j true = false → (∀ e ∈ oj.after, Region.binds .any e = true → e.on ≠ i) → oi.apart ops oj = true) →
      i ∈ Region.ready .any ops listed → YieldsIf P ops D oi v a → D w →
      anyX P ops Q S T fuel (listed.setIfInBounds i true) (a.put oi.dst v) w → anyX P ops Q S T (fuel + 1) listed a w := by
  intro fuel
  induction fuel with
  | zero =>
    intro listed a w _ _ hr hy hD H
    refine ⟨fun h => (by rw [h] at hr; cases hr), fun j hj => ?_⟩
    by_cases hji : j = i
    · subst hji; exact hy.wpOp hi hD ⟨fun _ hS => hS, H⟩
    · have := ready_mono hj hji
      rw [H.1] at this
      cases this
  | succ fuel ih =>
    intro listed a w hcl hfree hr hy hD H
    refine ⟨fun h => (by rw [h] at hr; cases hr), fun j hj => ?_⟩
    by_cases hji : j = i
    · subst hji; exact hy.wpOp hi hD ⟨fun _ hS => hS, H⟩
    · have h1 := H.2 j (ready_mono hj hji)
      obtain ⟨hjun, oj, hoj, hall⟩ := mem_ready.1 hj
      have hnot : ∀ e ∈ oj.after, Region.binds .any e = true → e.on ≠ i := fun e he hb heq => by
        have h1 := hall e he hb
        have h0 := (mem_ready.1 hr).1
        rw [heq] at h1
        rcases Nat.lt_or_ge i listed.size with h' | h'
        · simp [h'] at h0 h1; rw [h0] at h1; cases h1
        · simp [Array.getElem?_eq_none h'] at h1
      have hfj := hfree j oj hoj hji hjun hnot
      have hil : listed.getD i false = false := by
        have h0 := (mem_ready.1 hr).1
        rcases Nat.lt_or_ge i listed.size with h' | h'
        · simp [h'] at h0 ⊢; exact h0
        · simp [Array.getElem?_eq_none h']
      have h2 := wpOp_putIf hoj hfj (fun cs b => hsel i oi cs b hi) (fun cs b => hsel j oj cs b hoj) hQ hy h1
      have hfree' : ∀ k ok, ops[k]? = some ok → k ≠ i → (listed.setIfInBounds j true).getD k true = false →
          (∀ e ∈ ok.after, Region.binds .any e = true → e.on ≠ i) → oi.apart ops ok = true := fun k ok hk hki hun hno => by
        refine hfree k ok hk hki ?_ hno
        by_cases hjk : j = k
        · subst hjk; exact hjun
        · rw [getD_set_ne true hjk] at hun; exact hun
      refine wpOp_mono (fun a' w' h3 => ⟨h3.2.1, ih (listed.setIfInBounds j true) a' w' (hcl.set hj) hfree' (ready_mono hr (Ne.symm hji)) h3.1 (hDj listed j hcl hil hj w w' hD h3.2.1) ?_⟩) h2
      rw [Array.setIfInBounds_comm _ _ hji]
      exact h3.2.2

/-- Where all that is left is of T, another S may be taken. -/
theorem anyX_switch {S' : World → Prop} {T' : List Nat} : ∀ (fuel : Nat) (listed : Array Bool) (a : Act) (w : World),
    (∀ j, listed.getD j true = false → j ∈ T) → anyX P ops Q S' T' fuel listed a w → anyX P ops Q S T fuel listed a w
  | 0, _, _, _, _, h => h
  | fuel + 1, listed, _, _, hT, h => ⟨h.1, fun i hi => wpOp_mono (fun a' w' h' => ⟨fun hn => absurd (hT i (mem_ready.1 hi).1) hn, anyX_switch fuel _ a' w' (fun j hj => hT j (by
      by_cases e : i = j
      · subst e; exact (mem_ready.1 hi).1
      · rwa [getD_set_ne true e] at hj)) h'.2⟩) (h.2 i hi)⟩

/-- Those that have come up, as the bits of a number. -/
def bits (n m : Nat) : Array Bool := ((List.range n).map fun i => m.testBit i).toArray

theorem bits_set (n m i : Nat) : (bits n m).setIfInBounds i true = bits n (m ||| 2 ^ i) := by
  apply Array.ext
  · simp [bits]
  · intro j h1 h2
    simp only [bits, Array.size_setIfInBounds, List.size_toArray, List.length_map, List.length_range] at h1
    rw [Array.getElem_setIfInBounds]
    · simp only [bits, List.getElem_toArray, List.getElem_map, List.getElem_range, Nat.testBit_or, Nat.testBit_two_pow]
      by_cases e : i = j
      · subst e; simp
      · simp [e]
    · simpa [bits] using h1

theorem bits_zero (n : Nat) : bits n 0 = Array.replicate n false := by
  apply Array.ext <;> simp [bits]

/-- Those of T wait for i. -/
def waitsFor (ops : Array Oper) (T : List Nat) (i : Nat) : Bool := T.all fun t => reach ops i 5 t

/-- Number i may be taken first. -/
def takeOk (ops : Array Oper) (m i : Nat) : Bool :=
  Region.noSelect ops && Region.free .any ops (bits ops.size m) i && (Region.ready .any ops (bits ops.size m)).contains i
end

section
variable {P : Program} {f n : Nat} {ops : Array Oper} {k : List Item} {R : Value → World → Prop} {S : World → Prop} {T : List Nat} {σ : Env} {w : World} {fuel m : Nat}

def Dr (P : Program) (f n : Nat) (ops : Array Oper) (k : List Item) (R : Value → World → Prop) (S : World → Prop) (T : List Nat) (fuel m : Nat) (σ : Env) (w : World) : Prop :=
  ∀ a, Fr n σ a → Closed ops (bits ops.size m) → anyX P ops (Qn P f k R) S T fuel (bits ops.size m) a w

theorem rn_draw {id : Nat} (S : World → Prop) (T : List Nat) (hm : P.follows .mixedOrders = true) (h : Dr P f n ops k R S T ops.size 0 σ w.drew) : Rn P f n (.code (.region id ops true) :: k) R σ w :=
  fun a ha => runs_region (wp_region_any hm (anyX_any (S := S) (T := T) _ _ _ _ (by
    have := h a ha (fun j o _ hj => by simp [bits_zero] at hj; by_cases hlt : j < ops.size <;> simp [hlt] at hj)
    rwa [bits_zero] at this)))

theorem qn_panic {d : Option Tmp} {v : Value} : ∀ c a w, Qn P f k R (.panic c) (a.put d v) w → Qn P f k R (.panic c) a w := fun _ _ _ h => by cases h.1

theorem waitsFor_spec {i j : Nat} {listed : Array Bool} (h : waitsFor ops T i = true) (hc : Closed ops listed) (hi : listed.getD i false = false) (hj : j ∈ Region.ready .any ops listed) : j ∉ T := fun hm => by
  obtain ⟨_, oj, hoj, hall⟩ := mem_ready.1 hj
  have := reach_spec hc 5 j oj hoj hall (List.all_eq_true.1 h j hm)
  rw [hi] at this
  cases this

theorem dr_yields (i : Nat) {D : World → Prop} {o : Oper} {v : Value} (ho : ops[i]? = some o) (hk : takeOk ops m i = true) (hd : dstOk n o.dst = true)
    (hD : ∀ (listed : Array Bool) j, Closed ops listed → listed.getD i false = false → j ∈ Region.ready .any ops listed → ∀ w w', D w → (j ∉ T → S w → S w') → D w')
    (hv : ∀ a, Fr n σ a → YieldsIf P ops D o v a) (hw : D w) (h : Dr P f n ops k R S T fuel (m ||| 2 ^ i) (put σ o.dst v) w) : Dr P f n ops k R S T (fuel + 1) m σ w := fun a ha hc => by
  simp only [takeOk, Bool.and_eq_true] at hk
  obtain ⟨⟨h1, h2⟩, h3⟩ := hk
  have h3' : i ∈ Region.ready .any ops (bits ops.size m) := by simpa using h3
  have hc' := hc.set h3'
  refine anyX_first (D := D) ho (Region.noSelect_spec h1) qn_panic hD fuel _ a w hc (fun j oj hj hne hun hno => Region.free_spec ho h2 j oj hj hne hun hno) h3' (hv a ha) hw ?_
  rw [bits_set] at hc' ⊢
  exact h _ (ha.put _ v hd) hc'

/-- What yields its value in every world of S is taken first, where those of T wait for it. -/
theorem dr_val (i : Nat) (v : Value) {o : Oper} (ho : ops[i]? = some o) (hk : (takeOk ops m i && waitsFor ops T i) = true) (hg : guardOf ops σ o.guard = some true) (hd : dstOk n o.dst = true)
    (hv : ∀ w, S w → Val P n σ o w v) (hS : S w) (h : Dr P f n ops k R S T fuel (m ||| 2 ^ i) (put σ o.dst v) w) : Dr P f n ops k R S T (fuel + 1) m σ w := by
  simp only [Bool.and_eq_true] at hk
  exact dr_yields (D := S) i ho hk.1 hd (fun listed j hc hi hj w w' hS h => h (waitsFor_spec hk.2 hc hi hj) hS) (fun a ha => .inl ⟨guardOf_spec ha hg, fun w hw => hv w hw a ha⟩) hS h

/-- What yields its value in every world. -/
theorem dr_any (i : Nat) (v : Value) {o : Oper} (ho : ops[i]? = some o) (hk : takeOk ops m i = true) (hg : guardOf ops σ o.guard = some true) (hd : dstOk n o.dst = true)
    (hv : ∀ w, Val P n σ o w v) (h : Dr P f n ops k R S T fuel (m ||| 2 ^ i) (put σ o.dst v) w) : Dr P f n ops k R S T (fuel + 1) m σ w :=
  dr_yields (D := fun _ => True) i ho hk hd (fun _ _ _ _ _ _ _ _ _ => trivial) (fun a ha => .inl ⟨guardOf_spec ha hg, fun w _ => hv w a ha⟩) trivial h

/-- What its guard passes over. -/
theorem dr_not (i : Nat) {o : Oper} (ho : ops[i]? = some o) (hk : takeOk ops m i = true) (hg : guardOf ops σ o.guard = some false) (hd : dstOk n o.dst = true)
    (h : Dr P f n ops k R S T fuel (m ||| 2 ^ i) (put σ o.dst undef) w) : Dr P f n ops k R S T (fuel + 1) m σ w :=
  dr_yields (D := fun _ => True) i ho hk hd (fun _ _ _ _ _ _ _ _ _ => trivial) (fun _ ha => .inr ⟨guardOf_spec ha hg, rfl⟩) trivial h

theorem dr_sub {σ' : Env} (hs : Sub σ' σ) (h : Dr P f n ops k R S T fuel m σ' w) : Dr P f n ops k R S T fuel m σ w := fun a ha hc => h a (ha.sub hs) hc

/-- The one that is left to come up now. -/
theorem dr_op (i : Nat) {o : Oper} (ho : ops[i]? = some o) (hr : Region.ready .any ops (bits ops.size m) = [i]) (hg : guardOf ops σ o.guard = some true) (hd : dstOk n o.dst = true)
    (h : OpTo P n σ o w fun v w' => (i ∉ T → S w') ∧ Dr P f n ops k R S T fuel (m ||| 2 ^ i) (put σ o.dst v) w') : Dr P f n ops k R S T (fuel + 1) m σ w := fun a ha hc => by
  refine ⟨fun h0 => (by rw [hr] at h0; cases h0), fun j hj => ?_⟩
  have hc' := hc.set hj
  rw [hr] at hj
  obtain rfl : j = i := by simpa using hj
  unfold wpOp
  simp only [ho, guardOf_spec ha hg, if_true]
  refine .inl (h a ha _ _ fun v w' hv => ⟨fun ht _ => hv.1 ht, ?_⟩)
  rw [bits_set] at hc' ⊢
  exact hv.2 _ (ha.put _ v hd) hc'

/-- One of two comes up now. -/
theorem dr_op2 (i j : Nat) {oi oj : Oper} (hi : ops[i]? = some oi) (hj : ops[j]? = some oj) (hr : Region.ready .any ops (bits ops.size m) = [i, j])
    (hgi : guardOf ops σ oi.guard = some true) (hdi : dstOk n oi.dst = true) (hgj : guardOf ops σ oj.guard = some true) (hdj : dstOk n oj.dst = true)
    (h1 : OpTo P n σ oi w fun v w' => (i ∉ T → S w') ∧ Dr P f n ops k R S T fuel (m ||| 2 ^ i) (put σ oi.dst v) w')
    (h2 : OpTo P n σ oj w fun v w' => (j ∉ T → S w') ∧ Dr P f n ops k R S T fuel (m ||| 2 ^ j) (put σ oj.dst v) w') : Dr P f n ops k R S T (fuel + 1) m σ w := fun a ha hc => by
  refine ⟨fun h0 => (by rw [hr] at h0; cases h0), fun x hx => ?_⟩
  have hc' := hc.set hx
  rw [hr] at hx
  rcases (by simpa using hx : x = i ∨ x = j) with rfl | rfl
  · unfold wpOp
    simp only [hi, guardOf_spec ha hgi, if_true]
    refine .inl (h1 a ha _ _ fun v w' hv => ⟨fun ht _ => hv.1 ht, ?_⟩)
    rw [bits_set] at hc' ⊢
    exact hv.2 _ (ha.put _ v hdi) hc'
  · unfold wpOp
    simp only [hj, guardOf_spec ha hgj, if_true]
    refine .inl (h2 a ha _ _ fun v w' hv => ⟨fun ht _ => hv.1 ht, ?_⟩)
    rw [bits_set] at hc' ⊢
    exact hv.2 _ (ha.put _ v hdj) hc'

def leftIn (n m : Nat) (T : List Nat) : Bool := (List.range n).all fun j => m.testBit j || T.contains j

theorem dr_switch (S' : World → Prop) (T' : List Nat) (hT : leftIn ops.size m T = true) (h : Dr P f n ops k R S' T' fuel m σ w) : Dr P f n ops k R S T fuel m σ w := fun a ha hc =>
  anyX_switch fuel _ a w (fun j hj => by
    by_cases hlt : j < ops.size
    · have h1 := List.all_eq_true.1 hT j (List.mem_range.2 hlt)
      simp [bits, hlt] at hj
      simpa [hj] using h1
    · simp [bits, hlt] at hj) (h a ha hc)

/-- What is left behind a point that several orders come to is shown once. -/
theorem dr_with (fuel' m' : Nat) (I : Env → World → Prop) (hcont : ∀ σ' w', I σ' w' → Dr P f n ops k R S T fuel' m' σ' w')
    (hmain : (∀ σ' w', I σ' w' → Dr P f n ops k R S T fuel' m' σ' w') → Dr P f n ops k R S T fuel m σ w) : Dr P f n ops k R S T fuel m σ w := hmain hcont

theorem dr_done (hr : Region.ready .any ops (bits ops.size m) = []) (h : Rn P f n k R σ w) : Dr P f n ops k R S T fuel m σ w := fun a ha _ => by
  cases fuel with
  | zero => exact ⟨hr, rfl, h a ha⟩
  | succ fuel => exact ⟨fun _ => ⟨rfl, h a ha⟩, by rw [hr]; simp⟩
end
end E
end Go.Proofs.YthidfgolcibcoacDoor
