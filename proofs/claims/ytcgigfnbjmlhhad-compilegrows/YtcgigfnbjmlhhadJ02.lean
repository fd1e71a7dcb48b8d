/- Several texts in one: CmM, Ops2, StrOps, Own, Ops3, StepB, Rd, RdL, TreeRd, TreeV, Res2, Step, TbP. -/
import Derived.Test.YtcgigfnbjmlhhadJ01
import Derived.Laws.CopyRow
import Derived.Laws.StructEq
import Derived.Laws.MakeOwn
import Derived.Deep.Slices
import Derived.OpenShut
import Derived.Test.YtcgigfnbjmlhhadProg
/- Plain mathematics of instructions: those of a program; how many numbers are on the stack ahead of each. -/
namespace Go.Proofs.Ytcgigfnbjmlhhad
set_option maxRecDepth 20000
set_option maxHeartbeats 4000000
namespace E

/-- An instruction: Op, A, B, N. -/
abbrev Is := Int × Int × Int × Int
def sizeV (vs : List VarT) (v : Int) : Int := (vs.getD v.toNat (⟨#[]⟩, 0)).2
mutual
def insE (vs : List VarT) : ET → List Is
  | .mk op v n l => insEs vs l ++ [(op, if op = 2 ∨ op = 3 then cellOf vs v else 0, if op = 3 then sizeV vs v else 0, n)]
def insEs (vs : List VarT) : List ET → List Is
  | [] => []
  | t :: r => insE vs t ++ insEs vs r
end
/-- The last one of a statement in which no others stand. -/
def lastI (vs : List VarT) (op v : Int) : Is :=
  if op = 1 then (9, cellOf vs v, 0, 0) else if op = 2 then (10, cellOf vs v, sizeV vs v, 0) else if op = 3 then (11, 0, 0, 0) else if op = 4 then (12, cellOf vs v, 0, 0) else (15, 0, 0, 0)
def whileI (i0 : Nat) (l b : List Is) : List Is := l ++ ((13, ((i0 + l.length + 1 + b.length + 1 : Nat) : Int), 0, 0) :: (b ++ [(14, ((i0 : Nat) : Int), 0, 0)]))
def ifI (i0 : Nat) (l b o : List Is) : List Is := l ++ ((13, ((i0 + l.length + 1 + b.length + 1 : Nat) : Int), 0, 0) :: (b ++ ((14, ((i0 + l.length + 1 + b.length + 1 + o.length : Nat) : Int), 0, 0) :: o)))
def eI (vs : List VarT) (op : Int) (e : ET) : List Is := if needE op then insE vs e else []
def fI (vs : List VarT) (op : Int) (f : ET) : List Is := if needF op then insE vs f else []
mutual
/-- Those of a statement that begins at i0. -/
def insS (vs : List VarT) : ST → Nat → List Is
  | .mk op v e f b o, i0 =>
    if op = 5 then whileI i0 (eI vs op e) (insSs vs b (i0 + (eI vs op e).length + 1))
    else if op = 6 then ifI i0 (eI vs op e) (insSs vs b (i0 + (eI vs op e).length + 1)) (insSs vs o (i0 + (eI vs op e).length + 1 + (insSs vs b (i0 + (eI vs op e).length + 1)).length + 1))
    else eI vs op e ++ (fI vs op f ++ [lastI vs op v])
def insSs (vs : List VarT) : List ST → Nat → List Is
  | [], _ => []
  | t :: r, i0 => insS vs t i0 ++ insSs vs r (i0 + (insS vs t i0).length)
end
/-- Those of a program. -/
def haltI : Is := (16, 0, 0, 0)
def insP (vs : List VarT) (b : List ST) : List Is := insSs vs b 0 ++ [haltI]
/-- What Make tells: instructions, or a code. -/
def makeOf (vs : List VarT) (b : List ST) : List Is := if progFault vs b = 0 then insP vs b else []

theorem insEs_append (vs : List VarT) : ∀ (a b : List ET), insEs vs (a ++ b) = insEs vs a ++ insEs vs b
  | [], b => by simp [insEs]
  | t :: r, b => by simp only [List.cons_append, insEs, insEs_append vs r b, List.append_assoc]
theorem insSs_append (vs : List VarT) : ∀ (a b : List ST) (i0 : Nat), insSs vs (a ++ b) i0 = insSs vs a i0 ++ insSs vs b (i0 + (insSs vs a i0).length)
  | [], b, i0 => by simp [insSs]
  | t :: r, b, i0 => by
    simp only [List.cons_append, insSs, insSs_append vs r b, List.append_assoc, List.length_append]
    rw [Nat.add_assoc]
theorem insEs_take (vs : List VarT) {l : List ET} {i : Nat} {t : ET} (h : l[i]? = some t) : insEs vs (l.take (i + 1)) = insEs vs (l.take i) ++ insE vs t := by
  obtain ⟨hi, rfl⟩ := List.getElem?_eq_some_iff.1 h
  rw [List.take_succ_eq_append_getElem hi, insEs_append]
  simp [insEs]
theorem insSs_take (vs : List VarT) {l : List ST} {i : Nat} {t : ST} (h : l[i]? = some t) (i0 : Nat) : insSs vs (l.take (i + 1)) i0 = insSs vs (l.take i) i0 ++ insS vs t (i0 + (insSs vs (l.take i) i0).length) := by
  obtain ⟨hi, rfl⟩ := List.getElem?_eq_some_iff.1 h
  rw [List.take_succ_eq_append_getElem hi, insSs_append]
  simp [insSs]

/-! ### How many there are -/
mutual
theorem insE_len (vs : List VarT) : ∀ (t : ET), (insE vs t).length = szE t
  | .mk op v n l => by simp [insE, szE, insEs_len vs l]; omega
theorem insEs_len (vs : List VarT) : ∀ (l : List ET), (insEs vs l).length = szEs l
  | [] => by simp [insEs, szEs]
  | t :: r => by simp [insEs, szEs, insE_len vs t, insEs_len vs r]
end
theorem eI_len (vs : List VarT) (op : Int) (e : ET) : (eI vs op e).length ≤ szE e := by
  unfold eI
  split
  · rw [insE_len]; exact Nat.le_refl _
  · simp
theorem fI_len (vs : List VarT) (op : Int) (f : ET) : (fI vs op f).length ≤ szE f := by
  unfold fI
  split
  · rw [insE_len]; exact Nat.le_refl _
  · simp
mutual
theorem insS_len (vs : List VarT) : ∀ (t : ST) (i0 : Nat), (insS vs t i0).length ≤ 2 * szS t
  | .mk op v e f b o, i0 => by
    have h1 := eI_len vs op e
    have h2 := fI_len vs op f
    have h3 := insSs_len vs b (i0 + (eI vs op e).length + 1)
    have h4 := insSs_len vs o (i0 + (eI vs op e).length + 1 + (insSs vs b (i0 + (eI vs op e).length + 1)).length + 1)
    simp only [insS, szS]
    split
    · simp [whileI]; omega
    · split
      · simp [ifI]; omega
      · simp; omega
theorem insSs_len (vs : List VarT) : ∀ (l : List ST) (i0 : Nat), (insSs vs l i0).length ≤ 2 * szSs l
  | [], _ => by simp [insSs, szSs]
  | t :: r, i0 => by
    have h1 := insS_len vs t i0
    have h2 := insSs_len vs r (i0 + (insS vs t i0).length)
    simp only [insSs, szSs, List.length_append]
    omega
end

/-! ### The stack -/
def popI (op : Int) : Nat := if op = 3 ∨ op = 9 ∨ op = 11 ∨ op = 13 then 1 else if (4 ≤ op ∧ op ≤ 8) ∨ op = 10 then 2 else 0
def pushI (op : Int) : Nat := if 1 ≤ op ∧ op ≤ 8 then 1 else 0
/-- An instruction may stand where so many numbers are on the stack. -/
structure OkI (cells : Int) (n : Nat) (x : Is) : Prop where
  pop : popI x.1 ≤ n
  room : n - popI x.1 + pushI x.1 ≤ 24
  jump : x.1 = 13 ∨ x.1 = 14 → n - popI x.1 + pushI x.1 = 0
  halt : x.1 ≠ 16
  cell : x.1 = 2 ∨ x.1 = 9 ∨ x.1 = 12 → 0 ≤ x.2.1 ∧ x.2.1 < cells
  many : x.1 = 3 ∨ x.1 = 10 → 0 ≤ x.2.1 ∧ 1 ≤ x.2.2.1 ∧ x.2.1 + x.2.2.1 ≤ cells
/-- From n numbers on the stack these instructions go to m. -/
inductive Sim (cells : Int) : Nat → List Is → Nat → Prop
  | nil (n : Nat) : Sim cells n [] n
  | cons {n m : Nat} {x : Is} {r : List Is} (h : OkI cells n x) (hr : Sim cells (n - popI x.1 + pushI x.1) r m) : Sim cells n (x :: r) m
theorem Sim.app {c : Int} {n m k : Nat} {a b : List Is} (h : Sim c n a m) (h' : Sim c m b k) : Sim c n (a ++ b) k := by
  induction h with
  | nil => exact h'
  | cons h _ ih => exact .cons h (ih h')
theorem Sim.one {c : Int} {n : Nat} {x : Is} (h : OkI c n x) : Sim c n [x] (n - popI x.1 + pushI x.1) := .cons h (.nil _)
theorem Sim.one' {c : Int} {n m : Nat} {x : Is} (h : OkI c n x) (hm : n - popI x.1 + pushI x.1 = m) : Sim c n [x] m := hm ▸ Sim.one h
theorem Sim.det {c : Int} {n m m' : Nat} {a : List Is} (h : Sim c n a m) (h' : Sim c n a m') : m = m' := by
  induction h with
  | nil => cases h'; rfl
  | cons _ _ ih => cases h' with | cons _ h2 => exact ih h2
/-- At each place so many. -/
theorem Sim.at {c : Int} {n m : Nat} {a : List Is} (h : Sim c n a m) : ∀ (i : Nat), i ≤ a.length → ∃ k, Sim c n (a.take i) k ∧ ∀ x, a[i]? = some x → OkI c k x ∧ Sim c n (a.take (i + 1)) (k - popI x.1 + pushI x.1) := by
  induction h with
  | nil n => intro i hi; exact ⟨n, by simp only [List.take_nil]; exact .nil n, fun x hx => by simp at hx⟩
  | @cons n m x r hx hr ih =>
    intro i hi
    cases i with
    | zero => exact ⟨n, .nil n, fun y hy => by simp at hy; subst hy; exact ⟨hx, by simp only [List.take_succ_cons, List.take_zero]; exact Sim.one hx⟩⟩
    | succ i =>
      obtain ⟨k, h1, h2⟩ := ih i (by simpa using hi)
      exact ⟨k, .cons hx h1, fun y hy => by
        obtain ⟨h3, h4⟩ := h2 y (by simpa using hy)
        exact ⟨h3, .cons hx h4⟩⟩

/-! ### Cells -/
def Big (vs : List VarT) : Prop := ∀ x ∈ vs, 1 ≤ x.2
theorem sumV_big : ∀ {vs : List VarT}, Big vs → 0 ≤ sumV vs
  | [], _ => by simp [sumV]
  | x :: r, h => by
    have h1 := h x (by simp)
    have h2 := sumV_big (vs := r) fun y hy => h y (by simp [hy])
    simp only [sumV, List.map_cons, List.sum_cons] at h2 ⊢
    omega
theorem cell_nat : ∀ (vs : List VarT), Big vs → ∀ (k : Nat), k < vs.length → 0 ≤ sumV (vs.take k) ∧ 1 ≤ (vs.getD k (⟨#[]⟩, 0)).2 ∧ sumV (vs.take k) + (vs.getD k (⟨#[]⟩, 0)).2 ≤ sumV vs
  | [], _, k, hk => by simp at hk
  | x :: r, h, 0, _ => by
    have h1 := h x (by simp)
    have h2 := sumV_big (vs := r) fun y hy => h y (by simp [hy])
    simp only [sumV, List.take_zero, List.map_nil, List.sum_nil, List.map_cons, List.sum_cons, List.getD_cons_zero] at h2 ⊢
    omega
  | x :: r, h, k + 1, hk => by
    have h1 := h x (by simp)
    have ih := cell_nat r (fun y hy => h y (by simp [hy])) k (by simpa using hk)
    simp only [sumV, List.take_succ_cons, List.map_cons, List.sum_cons, List.getD_cons_succ] at ih ⊢
    omega
theorem cell_in {vs : List VarT} (h : Big vs) {v : Int} (hv : v.toNat < vs.length) : 0 ≤ cellOf vs v ∧ 1 ≤ sizeV vs v ∧ cellOf vs v + sizeV vs v ≤ sumV vs := cell_nat vs h _ hv
end E
end Go.Proofs.Ytcgigfnbjmlhhad

/- More laws of single operations: cutting a slice or an array, copy, a field of a value. -/
namespace Go.Proofs.Ytcgigfnbjmlhhad
set_option maxRecDepth 20000
set_option maxHeartbeats 4000000
namespace E

section
variable {P : Program} {T : Tbl} {n : Nat} {σ : Env} {o : Oper} {w : World} {v : Value}

/-- s[:h]. -/
theorem val_sliceTo {t : TypeId} {x hi : Operand} {a : Option Addr} {len cap sz : Nat} {k1 : IntKind} {i1 : Int} (h : Nat) (hT : T.check P = true) (ho : o.op = .slice t x none (some hi) none) (hx : ev σ x = some (.slice a len cap))
    (h1 : ev σ hi = some (.int k1 i1)) (ht : find T.sl t = some sz) (e1 : i1 = (h : Int)) (hm : h ≤ cap) (w : World) : Val P n σ o w (.slice a h cap) := by
  intro ac ha
  subst e1
  have hs := Tbl.sl_ok hT ht
  unfold slOk at hs
  split at hs
  · rename_i e hu
    simp [execOp, ho, ha.eval hx, ha.eval h1, Instr.sliceAt, Instr.slice, Instr.sliceBounds, Instr.sliceBound, asIntOf, run_underlying hu, sizeOk_run hs, hm]
    cases a <;> simp [Addr.add]
  · cases hs

/-- x[l:], of an array. -/
theorem val_sliceArrFrom {t : TypeId} {x lo : Operand} {b q len sz : Nat} {k1 : IntKind} {i1 : Int} (l : Nat) (hT : T.check P = true) (ho : o.op = .slice t x (some lo) none none) (hx : ev σ x = some (.pointer (some ⟨b, q, none⟩)))
    (h1 : ev σ lo = some (.int k1 i1)) (ht : find T.ar t = some (len, sz)) (e1 : i1 = (l : Int)) (hm : l < len) (w : World) : Val P n σ o w (.slice (some ⟨b, q + l * sz, none⟩) (len - l) (len - l)) := by
  intro a ha
  subst e1
  have hs := Tbl.ar_ok hT ht
  unfold arOk at hs
  split at hs
  · rename_i l' e hu
    simp only [Bool.and_eq_true, beq_iff_eq] at hs
    obtain ⟨rfl, hs⟩ := hs
    have hle : l ≤ l' := Nat.le_of_lt hm
    have hne : ¬ l' = l := by omega
    simp [execOp, ho, ha.eval hx, ha.eval h1, Instr.sliceAt, Instr.sliceBounds, Instr.sliceBound, asIntOf, Instr.sureAddr, run_underlying hu, sizeOk_run hs, hle, hne, Addr.add_mid]
  · cases hs

def copyOk (P : Program) (t : Nat) : Bool :=
  match P.underlying t with
  | some (.slice e) => sizeOk P e 1
  | _ => false

theorem opTo_copy {t t' : TypeId} {x y : Operand} {b q dl dc b' q' sl sc : Nat} {L : List Value} {e : TypeId} {K : Value → World → Prop} (cs : List Value)
    (ho : o.op = .call { callee := .builtin .copy, args := #[x, y], argTypes := #[t, t'] }) (hx : ev σ x = some (.slice (some ⟨b, q, none⟩) dl dc)) (hy : ev σ y = some (.slice (some ⟨b', q', none⟩) sl sc))
    (hP : copyOk P t = true) (hb : Blk w b L e) (hn : cs.length = Nat.min sl dl) (hsrc : w.rangeAt b' q' cs) (hl : q + cs.length ≤ L.length) (h1 : ∀ u ∈ cs, u.oneCell' = true)
    (hK : ∀ r, K r (w.setRow b (splice L q cs).toArray)) : OpTo P n σ o w K := by
  unfold copyOk at hP
  split at hP
  · rename_i el hu
    refine opTo_run (v := goInt cs.length) (w' := w.setRow b (splice L q cs).toArray) (fun a ha => ?_) (hK _)
    have hr := run_copy_row P w t t' o.type el b q dl dc ⟨b', q', none⟩ sl sc L.toArray e cs hu (sizeOk_info hP) hb hn (fun j u hj => by rw [Addr.add_mid]; exact hsrc j u hj) (by simpa using hl) h1
    have hr' : (Builtin.copy_ #[t, t'] o.type #[.slice (some ⟨b, q, none⟩) dl dc, .slice (some ⟨b', q', none⟩) sl sc]).run P w = .ok (goInt cs.length) (w.setRow b (splice L q cs).toArray) := by
      rw [hr]; simp [splice]
    simp [execOp, ho, resolve, invoke, builtin, ha.eval hx, ha.eval hy, hr']
  · cases hP

def fieldOne (P : Program) (s f off : Nat) : Bool :=
  match P.underlying s with
  | some (.struct fs) => match fs[f]? with
    | some d => d.offset == off && oneOk P d.type
    | none => false
  | _ => false
def fieldAgg (P : Program) (s f off m : Nat) : Bool :=
  match P.underlying s with
  | some (.struct fs) => match fs[f]? with
    | some d => d.offset == off && agOk P d.type m
    | none => false
  | _ => false

theorem oneOk_isAgg {t : Nat} (hs : oneOk P t = true) (w : World) : (isAgg t).run P w = .ok false w := by
  unfold oneOk at hs
  cases hu : P.underlying t with
  | none => simp [hu] at hs
  | some d =>
    unfold isAgg
    rw [Sem.run_bind, run_underlying hu w]
    cases d <;> simp_all
theorem agOk_isAgg {t m : Nat} (hs : agOk P t m = true) (w : World) : (isAgg t).run P w = .ok true w ∧ sizeOk P t m = true := by
  unfold agOk at hs
  cases hu : P.underlying t with
  | none => simp [hu] at hs
  | some d =>
    unfold isAgg
    rw [Sem.run_bind, run_underlying hu w]
    cases d <;> simp_all

theorem val_field1 {s f : Nat} {x : Operand} (off : Nat) (cs : List Value) (ho : o.op = .field s x f) (hx : ev σ x = some (.agg cs.toArray)) (hP : fieldOne P s f off = true) (hv : cs[off]? = some v) (w : World) : Val P n σ o w v := by
  intro a ha
  unfold fieldOne at hP
  split at hP
  · rename_i fs hu
    split at hP
    · rename_i d hd
      simp only [Bool.and_eq_true, beq_iff_eq] at hP
      obtain ⟨rfl, hP⟩ := hP
      simp [execOp, ho, ha.eval hx, Instr.field, run_underlying hu, hd, asAgg, part, oneOk_isAgg hP, hv]
    · cases hP
  · cases hP
theorem val_fieldAgg {s f m : Nat} {x : Operand} (off : Nat) (cs ds : List Value) (ho : o.op = .field s x f) (hx : ev σ x = some (.agg cs.toArray)) (hP : fieldAgg P s f off m = true) (hv : (cs.drop off).take m = ds) (w : World) : Val P n σ o w (.agg ds.toArray) := by
  intro a ha
  unfold fieldAgg at hP
  split at hP
  · rename_i fs hu
    split at hP
    · rename_i d hd
      simp only [Bool.and_eq_true, beq_iff_eq] at hP
      obtain ⟨rfl, hP⟩ := hP
      have h1 := agOk_isAgg hP w
      simp [execOp, ho, ha.eval hx, Instr.field, run_underlying hu, hd, asAgg, part, h1.1, sizeOk_run h1.2, hv]
    · cases hP
  · cases hP
end

def isBool (P : Program) (t : Nat) : Bool :=
  match P.underlying t with
  | some .bool => true
  | _ => false

theorem val_neBool {P : Program} {n : Nat} {σ : Env} {o : Oper} {t t' : Nat} {x y : Operand} (a b r : Bool) (h : isBool P t = true) (ho : o.op = .binOp .neq t x y t') (hx : ev σ x = some (.bool a)) (hy : ev σ y = some (.bool b)) (hr : (!(a == b)) = r) (w : World) : Val P n σ o w (.bool r) := by
  intro ac ha
  subst hr
  unfold isBool at h
  split at h
  · rename_i hu
    have he : (Op.equal t (.bool a) (.bool b)).run P w = .ok (a == b) w := run_equalIn_bool' w 9999 t a b hu
    simp [execOp, ho, ha.eval hx, ha.eval hy, eqGuard, binOp, he]
  · cases h


/-- A pointer that is not nil, held against nil. -/
def isPtr (P : Program) (t : Nat) : Bool :=
  match P.underlying t with
  | some (.pointer _) => true
  | _ => false
theorem val_neNil {P : Program} {n : Nat} {σ : Env} {o : Oper} {t t' : Nat} {x : Operand} {ad : Addr} (h : isPtr P t = true) (ho : o.op = .binOp .neq t x (.const (.pointer none)) t') (hx : ev σ x = some (.pointer (some ad))) (w : World) : Val P n σ o w (.bool true) := by
  intro a ha
  unfold isPtr at h
  split at h
  · rename_i e hu
    have he : ∀ d, (Op.equalIn (d + 1) t (.pointer (some ad)) (.pointer none)).run P w = .ok false w := fun d => by
      simp [Op.equalIn, run_underlying hu]
    have he' : (Op.equal t (.pointer (some ad)) (.pointer none)).run P w = .ok false w := he 9999
    have hc : a.eval (.const (.pointer none)) = .pointer none := rfl
    simp [execOp, ho, ha.eval hx, hc, eqGuard, binOp, he']
  · cases h

/-- Blocks of two types are two. -/
theorem Blk.ne {w : World} {a b : Nat} {L L' : List Value} {e e' : TypeId} (h : Blk w a L e) (h' : Blk w b L' e') (hne : e ≠ e') : a ≠ b := fun hab => by
  subst hab
  unfold Blk at h h'
  rw [h] at h'
  simp at h'
  exact hne h'.2
end E
end Go.Proofs.Ytcgigfnbjmlhhad

/- Laws of single operations on strings, and of structs of a string and a number. -/
namespace Go.Proofs.Ytcgigfnbjmlhhad
set_option maxRecDepth 20000
set_option maxHeartbeats 4000000
namespace E

section
variable {P : Program} {n : Nat} {σ : Env} {o : Oper}

def isStr (P : Program) (t : Nat) : Bool :=
  match P.underlying t with
  | some .string => true
  | _ => false
theorem isStr_spec {t : Nat} (h : isStr P t = true) : P.underlying t = some .string := by
  unfold isStr at h
  split at h
  · rename_i hu; exact hu
  · cases h

/-- s[i]. -/
theorem val_strAt {t : Nat} {x ix : Operand} {kk : IntKind} (s : ByteArray) (j : Nat) (c : UInt8) {i : Int} (h : isStr P t = true) (ho : o.op = .index t x ix) (hx : ev σ x = some (.string s)) (hi : ev σ ix = some (.int kk i))
    (hij : i = (j : Int)) (hc : s[j]? = some c) (w : World) : Val P n σ o w (.int .u8 (c.toNat : Nat)) := by
  intro a ha
  subst hij
  simp [execOp, ho, ha.eval hx, ha.eval hi, Instr.index, asIntOf, run_underlying (isStr_spec h), hc]

/-- len(s). -/
theorem val_strLen {t : Nat} {x : Operand} (s : ByteArray) (h : isStr P t = true) (ho : o.op = .call { callee := .builtin .len, args := #[x], argTypes := #[t] }) (hx : ev σ x = some (.string s)) (w : World) : Val P n σ o w (.int .i64 (s.size : Nat)) := by
  intro a ha
  simp [execOp, ho, resolve, invoke, builtin, Builtin.len_, run_underlying (isStr_spec h), ha.eval hx, goInt]

theorem val_eqStr {t t' : Nat} {x y : Operand} (a b : ByteArray) (r : Bool) (ho : o.op = .binOp .eql t x y t') (hx : ev σ x = some (.string a)) (hy : ev σ y = some (.string b)) (hr : (a.toList == b.toList) = r) (w : World) : Val P n σ o w (.bool r) := by
  intro ac ha
  subst hr
  simp [execOp, ho, ha.eval hx, ha.eval hy, eqGuard, binOp, Op.stringOp]
theorem val_neStr {t t' : Nat} {x y : Operand} (a b : ByteArray) (r : Bool) (ho : o.op = .binOp .neq t x y t') (hx : ev σ x = some (.string a)) (hy : ev σ y = some (.string b)) (hr : (!(a.toList == b.toList)) = r) (w : World) : Val P n σ o w (.bool r) := by
  intro ac ha
  subst hr
  simp [execOp, ho, ha.eval hx, ha.eval hy, eqGuard, binOp, Op.stringOp]

/-- A struct of a string and a number. -/
def isPair (P : Program) (t : Nat) : Bool :=
  match P.underlying t with
  | some (.struct fs) => match fs.toList with
    | [f, g] => f.offset == 0 && g.offset == 1 && (f.name != "_") && (g.name != "_") && isStr P f.type && (match P.underlying g.type with | some (.int _) => true | _ => false) && !(P.stoodInHeld t) && !(P.eqGuardType P.depth t)
    | _ => false
  | _ => false

theorem run_equal_pair {t : Nat} (h : isPair P t = true) (a b : ByteArray) (x y : Int) (w : World) :
    (Op.equalIn 10000 t (.agg #[.string a, .int .i64 x]) (.agg #[.string b, .int .i64 y])).run P w = .ok (a.toList == b.toList && x == y) w ∧ P.eqGuardType P.depth t = false := by
  unfold isPair at h
  split at h
  · rename_i fs hu
    split at h
    · rename_i f g hfs
      simp only [Bool.and_eq_true, beq_iff_eq, bne_iff_ne, Bool.not_eq_true'] at h
      obtain ⟨⟨⟨⟨⟨⟨⟨h1, h2⟩, h3⟩, h4⟩, h5⟩, h6⟩, h7⟩, h8⟩ := h
      refine ⟨?_, h8⟩
      have hf : P.fieldsOf t = fs := by simp [Program.fieldsOf, hu]
      have hs := isStr_spec h5
      split at h6
      · rename_i k hk
        rw [run_equalIn_struct w 9999 t _ _ (by rw [hf]; exact hu) h7, hf, hfs]
        have e1 := run_equalIn_string (P := P) w 9998 f.type a b hs
        have e2 := run_equalIn_int (P := P) w 9998 g.type .i64 k x y hk
        have p1 : (part f.type #[.string a, .int .i64 x] 0).run P w = .ok (.string a) w := by simp [part, isAgg, run_underlying hs]
        have p2 : (part f.type #[.string b, .int .i64 y] 0).run P w = .ok (.string b) w := by simp [part, isAgg, run_underlying hs]
        have p3 : (part g.type #[.string a, .int .i64 x] 1).run P w = .ok (.int .i64 x) w := by simp [part, isAgg, run_underlying hk]
        have p4 : (part g.type #[.string b, .int .i64 y] 1).run P w = .ok (.int .i64 y) w := by simp [part, isAgg, run_underlying hk]
        simp only [Op.eqFields, h1, h2, h3, h4, ne_eq, not_false_eq_true, if_true, Sem.run_bind, p1, p2, Result.andThen_ok, e1]
        generalize (a.toList == b.toList) = p at *
        generalize (x == y) = q at *
        have e2' : (Op.equalIn 9999 g.type (.int .i64 x) (.int .i64 y)).run P w = .ok q w := e2
        cases p <;> cases q <;> simp [p3, p4, e2']
      · cases h6
    · cases h
  · cases h
theorem val_nePair {t t' : Nat} {x y : Operand} (a b : ByteArray) (k l : Int) (r : Bool) (h : isPair P t = true) (ho : o.op = .binOp .neq t x y t') (hx : ev σ x = some (.agg #[.string a, .int .i64 k])) (hy : ev σ y = some (.agg #[.string b, .int .i64 l]))
    (hr : (!(a.toList == b.toList && k == l)) = r) (w : World) : Val P n σ o w (.bool r) := by
  intro ac ha
  subst hr
  obtain ⟨h1, h2⟩ := run_equal_pair h a b k l w
  simp only [execOp, ho, ha.eval hx, ha.eval hy, Sem.run_bind, run_eqGuard_agg w .neq t _ _ _ _ h2, Result.andThen_ok, run_neq_struct, h1]
  simp
theorem val_eqPair {t t' : Nat} {x y : Operand} (a b : ByteArray) (k l : Int) (r : Bool) (h : isPair P t = true) (ho : o.op = .binOp .eql t x y t') (hx : ev σ x = some (.agg #[.string a, .int .i64 k])) (hy : ev σ y = some (.agg #[.string b, .int .i64 l]))
    (hr : (a.toList == b.toList && k == l) = r) (w : World) : Val P n σ o w (.bool r) := by
  intro ac ha
  subst hr
  obtain ⟨h1, h2⟩ := run_equal_pair h a b k l w
  simp only [execOp, ho, ha.eval hx, ha.eval hy, Sem.run_bind, run_eqGuard_agg w .eql t _ _ _ _ h2, Result.andThen_ok, run_eql_struct, h1]
  simp
end
end E
end Go.Proofs.Ytcgigfnbjmlhhad

/- Slices that a call owns: over a row that may be longer than the slice's capacity; append to them; cutting them to their beginning. -/
namespace Go.Proofs.Ytcgigfnbjmlhhad
set_option maxRecDepth 20000
set_option maxHeartbeats 4000000
namespace E

/-- v is a slice of n elements, the cells xs, over a row from its head on, of blocks from B on (or nil). -/
def Own (w : World) (B e size : Nat) (v : Value) (n : Nat) (xs : List Value) : Prop :=
  xs.length = n * size ∧ ((v = .slice none 0 0 ∧ n = 0) ∨
    ∃ g cap cur, v = .slice (some ⟨g, 0, none⟩) n cap ∧ B ≤ g ∧ Blk w g cur e ∧ n ≤ cap ∧ cap * size ≤ cur.length ∧ cur.take (n * size) = xs)

def capOf : Value → Nat
  | .slice _ _ c => c
  | _ => 0

section
variable {w w' : World} {B e size n : Nat} {v : Value} {xs : List Value}

theorem Own.nil (w : World) (B e size : Nat) : Own w B e size (.slice none 0 0) 0 [] := ⟨by simp, .inl ⟨rfl, rfl⟩⟩
theorem Own.lt (h : Own w B e size v n xs) : ∀ k, v.ownBlock = some k → B ≤ k ∧ k < w.heap.size := by
  intro k hk
  rcases h.2 with ⟨rfl, _⟩ | ⟨g, cap, cur, rfl, hb, hg, _⟩
  · simp [Value.ownBlock] at hk
  · simp [Value.ownBlock] at hk
    subst hk
    exact ⟨hb, hg.lt⟩
theorem Own.keep {fp : List Nat} (h : Own w B e size v n xs) (hk : Keep fp w w') (hn : ∀ k, v.ownBlock = some k → k ∉ fp) : Own w' B e size v n xs := by
  refine ⟨h.1, ?_⟩
  rcases h.2 with h0 | ⟨g, cap, cur, rfl, hb, hg, r⟩
  · exact .inl h0
  · exact .inr ⟨g, cap, cur, rfl, hb, hk.blk hg (hn g rfl), r⟩
theorem Own.form (h : Own w B e size v n xs) : ∃ a cap, v = .slice a n cap := by
  rcases h.2 with ⟨h1, h2⟩ | ⟨g, cap, cur, h1, _⟩
  · exact ⟨none, 0, by rw [h1, h2]⟩
  · exact ⟨_, cap, h1⟩
theorem Own.range (h : Own w B e size v n xs) {q : Nat} {cs : List Value} (hc : (xs.drop q).take cs.length = cs) (h0 : 0 < n) : ∃ g cap, v = .slice (some ⟨g, 0, none⟩) n cap ∧ w.rangeAt g q cs := by
  rcases h.2 with ⟨_, h2⟩ | ⟨g, cap, cur, h1, _, hb, _, _, ht⟩
  · omega
  · refine ⟨g, cap, h1, fun j u hu => hb.cell ?_⟩
    rw [← hc, List.getElem?_take] at hu
    split at hu
    · rw [List.getElem?_drop, ← ht, List.getElem?_take] at hu
      split at hu
      · exact hu
      · cases hu
    · cases hu
/-- Its beginning, with no room behind it. -/
theorem Own.cut (h : Own w B e size v n xs) {m : Nat} (hm : m ≤ n) {a : Option Addr} {cap : Nat} (hv : v = .slice a n cap) : Own w B e size (.slice a m m) m (xs.take (m * size)) := by
  refine ⟨?_, ?_⟩
  · rw [List.length_take, h.1, Nat.min_eq_left (Nat.mul_le_mul_right _ hm)]
  · rcases h.2 with ⟨h1, h2⟩ | ⟨g, c, cur, h1, hb, hg, hc, hl, ht⟩
    · rw [h1] at hv
      injection hv with e1 e2 e3
      subst e1
      have : m = 0 := by omega
      subst this
      exact .inl ⟨rfl, rfl⟩
    · rw [h1] at hv
      injection hv with e1 e2 e3
      subst e1
      refine .inr ⟨g, m, cur, rfl, hb, hg, Nat.le_refl _, Nat.le_trans (Nat.mul_le_mul_right _ (Nat.le_trans hm hc)) hl, ?_⟩
      rw [← ht, List.take_take, Nat.min_eq_left (Nat.mul_le_mul_right _ hm)]
theorem Own.cap_le (h : Own w B e size v n xs) : n ≤ capOf v := by
  rcases h.2 with ⟨_, h2⟩ | ⟨g, cap, cur, h1, _, _, hc, _⟩
  · omega
  · rw [h1]; exact hc

theorem keep_grown {w w' : World} {row : Option Nat} (hg : w.grownBy w' row) : Keep row.toList w w' := (Keep.refl _ _).grown hg fun k e => .inl (by simp [e])
end

theorem opTo_app {P : Program} {n : Nat} {σ : Env} {o : Oper} {w : World} {v : Value} {t : TypeId} {s x : Operand} {b q m c ln : Nat} {K : Value → World → Prop} (B e size bytes : Nat) (xs news : List Value)
    (ho : o.op = .call { callee := .builtin .append, args := #[s, x], argTypes := #[t, t] }) (hs : ev σ s = some v) (hx : ev σ x = some (.slice (some ⟨b, q, none⟩) m c))
    (hP : appOk P t e size bytes = true) (hown : Own w B e size v ln xs) (hnews : w.rangeAt b q news) (hl : news.length = m * size) (h1 : ∀ u ∈ news, u.oneCell' = true)
    (hm : 0 < m) (h63 : ln + m ≤ maxLen) (hbytes : (ln + m) * bytes ≤ 140737488355328) (hbase : B ≤ w.heap.size)
    (hK : ∀ g cap w', Own w' B e size (.slice (some ⟨g, 0, none⟩) (ln + m) cap) (ln + m) (xs ++ news) → ((v.ownBlock = some g ∧ ln + m ≤ capOf v ∧ Keep [g] w w') ∨ (g = w.heap.size ∧ Keep [] w w' ∧ w'.heap.size = w.heap.size + 1)) → K (.slice (some ⟨g, 0, none⟩) (ln + m) cap) w') : OpTo P n σ o w K := by
  obtain ⟨i, z, hu, hi, hz, hsize, hby, hzs⟩ := appOk_run hP
  subst hsize
  subst hby
  have hlen : (xs ++ news).length = (ln + m) * i.size := by rw [List.length_append, hown.1, hl, Nat.add_mul]
  have hnews' : ∀ j u, news[j]? = some u → w.cell? ((⟨b, q, none⟩ : Addr).add j) = some u := fun j u hj => by rw [Addr.add_mid]; exact hnews j u hj
  have h63' : ((ln + m : Nat) : Int) ≤ 9223372036854775807 := by simp only [maxLen] at h63; omega
  have key : ∀ v' w', (Builtin.append_ #[t, t] o.type #[v, .slice (some ⟨b, q, none⟩) m c]).run P w = .ok v' w' → K v' w' → OpTo P n σ o w K := fun v' w' hr hk =>
    opTo_run (w' := w') (v := v') (fun a ha => by simp [execOp, ho, resolve, invoke, builtin, ha.eval hs, ha.eval hx, hr]) hk
  have hnew : ∀ (old : Nat) (cur : Array Value), cur = xs.toArray ++ news.toArray ++ Builtin.zeroCells z.cells (grownCap w (ln + m) old e - (ln + m)) →
      Own (w.drew.alloc (.cells cur e)) B e i.size (.slice (some ⟨w.heap.size, 0, none⟩) (ln + m) (grownCap w (ln + m) old e)) (ln + m) (xs ++ news) ∧ Keep [] w (w.drew.alloc (.cells cur e)) := fun old cur hcur => by
    have hge := grownCap_ge w (ln + m) old e
    refine ⟨⟨hlen, .inr ⟨w.heap.size, _, cur.toList, rfl, hbase, ?_, hge, ?_, ?_⟩⟩, ((Keep.refl _ _).drew).alloc _⟩
    · have := Blk.new w.drew cur.toList e
      rwa [Array.toArray_toList] at this
    · rw [hcur]
      simp only [Array.toList_append, List.length_append, Array.length_toList, size_zeroCells, hzs, hown.1, hl, ← Nat.add_mul]
      rw [Nat.add_sub_cancel' hge]
      exact Nat.le_refl _
    · rw [hcur]
      simp only [Array.toList_append]
      rw [← hlen]
      exact List.take_left
  rcases hown.2 with ⟨rfl, rfl⟩ | ⟨g, cap, cur, rfl, hbg, hg, hnc, hcs, htake⟩
  · have hxs : xs = [] := List.eq_nil_of_length_eq_zero (by simpa using hown.1)
    subst hxs
    have hr := run_append_nil (P := P) w t o.type e i z hu hi hz ⟨b, q, none⟩ m c news hl hnews' hm (by omega) (by simp only [Nat.zero_add] at hbytes; omega)
    have hn := hnew 0 (news.toArray ++ Builtin.zeroCells z.cells (grownCap w m 0 e - m)) (by simp)
    simp only [Nat.zero_add] at hn hK
    exact key _ _ hr (hK _ _ _ hn.1 (.inr ⟨rfl, hn.2, World.size_alloc _ _⟩))
  · by_cases hroom : ln + m ≤ cap
    · have hfit : ln * i.size + news.length ≤ cur.toArray.size := by
        rw [hl, ← Nat.add_mul, List.size_toArray]
        exact Nat.le_trans (Nat.mul_le_mul_right _ hroom) hcs
      have hr := run_append_room (P := P) w t o.type e i hu hi g ln cap cur.toArray hg ⟨b, q, none⟩ m c news hl hnews' h1 hroom hfit
      refine key _ _ hr (hK _ _ _ ⟨hlen, .inr ⟨g, cap, _, rfl, hbg, hg.set _, hroom, ?_, ?_⟩⟩ (.inl ⟨rfl, hroom, (Keep.refl _ _).setRow _ _ (.inl (by simp))⟩))
      · simp only [List.size_toArray] at hfit
        simp only [List.length_append, List.length_take, List.length_drop]
        omega
      · rw [← hlen, htake]
        exact List.take_left
    · have holds : ∀ j u, xs[j]? = some u → w.cell? ((⟨g, 0, none⟩ : Addr).add j) = some u := fun j u hj => by
        rw [Addr.add_mid, Nat.zero_add]
        refine hg.cell ?_
        rw [← htake, List.getElem?_take] at hj
        split at hj
        · exact hj
        · cases hj
      have hr := run_append_grow (P := P) w t o.type e i z hu hi hz ⟨g, 0, none⟩ ln cap xs hown.1 holds ⟨b, q, none⟩ m c news hl hnews' (by omega) h63' (growslice_fits (by omega) hbytes)
      have hn := hnew cap _ rfl
      exact key _ _ hr (hK _ _ _ hn.1 (.inr ⟨rfl, hn.2, World.size_alloc _ _⟩))

section
variable {P : Program} {T : Tbl} {n : Nat} {σ : Env} {o : Oper}
/-- s[:h:m]. -/
theorem val_slice3 {t : TypeId} {x hi mx : Operand} {a : Option Addr} {len cap sz : Nat} {k1 k2 : IntKind} {i1 i2 : Int} (h m : Nat) (hT : T.check P = true) (ho : o.op = .slice t x none (some hi) (some mx)) (hx : ev σ x = some (.slice a len cap))
    (h1 : ev σ hi = some (.int k1 i1)) (h2 : ev σ mx = some (.int k2 i2)) (ht : find T.sl t = some sz) (e1 : i1 = (h : Int)) (e2 : i2 = (m : Int)) (hm : m ≤ cap) (hh : h ≤ m) (w : World) : Val P n σ o w (.slice a h m) := by
  intro ac ha
  subst e1
  subst e2
  have hs := Tbl.sl_ok hT ht
  unfold slOk at hs
  split at hs
  · rename_i e hu
    simp [execOp, ho, ha.eval hx, ha.eval h1, ha.eval h2, Instr.sliceAt, Instr.slice, Instr.sliceBounds, Instr.sliceBound, asIntOf, run_underlying hu, sizeOk_run hs, hm, hh]
    cases a <;> simp [Addr.add]
  · cases hs
end
end E
end Go.Proofs.Ytcgigfnbjmlhhad

/- More laws of single operations: a quotient, a pointer that is held against nil, one of a row of bools, a slice that is made. -/
namespace Go.Proofs.Ytcgigfnbjmlhhad
set_option maxRecDepth 20000
set_option maxHeartbeats 4000000
namespace E

section
variable {P : Program} {T : Tbl} {n : Nat} {σ : Env} {o : Oper} {w : World}

theorem val_quo {t t' : TypeId} {x y : Operand} (k : IntKind) (a b r : Int) (ho : o.op = .binOp .quo t x y t') (hx : ev σ x = some (.int k a)) (hy : ev σ y = some (.int k b)) (hb : b ≠ 0)
    (hr : k.wrap (a.tdiv b) = r) (w : World) : Val P n σ o w (.int k r) := by
  intro ac ha
  subst hr
  simp [execOp, ho, ha.eval hx, ha.eval hy, eqGuard, binOp, Op.intDiv, hb]

theorem quo8 (k : Nat) (h : k < 1000000) : IntKind.i64.wrap (((k : Nat) : Int).tdiv 8) = ((k / 8 : Nat) : Int) := by
  have e : ((k : Nat) : Int).tdiv 8 = ((k / 8 : Nat) : Int) := by
    rw [Int.tdiv_eq_ediv_of_nonneg (by omega)]
    omega
  rw [e, wrap_i64 (by omega) (by omega)]

theorem val_eqNil {t t' : Nat} {x : Operand} {ad : Addr} (h : isPtr P t = true) (ho : o.op = .binOp .eql t x (.const (.pointer none)) t') (hx : ev σ x = some (.pointer (some ad))) (w : World) : Val P n σ o w (.bool false) := by
  intro a ha
  unfold isPtr at h
  split at h
  · rename_i e hu
    have he : ∀ d, (Op.equalIn (d + 1) t (.pointer (some ad)) (.pointer none)).run P w = .ok false w := fun d => by
      simp [Op.equalIn, run_underlying hu]
    have he' : (Op.equal t (.pointer (some ad)) (.pointer none)).run P w = .ok false w := he 9999
    have hc : a.eval (.const (.pointer none)) = .pointer none := rfl
    simp [execOp, ho, ha.eval hx, hc, eqGuard, binOp, he']
  · cases h

def arrBool (P : Program) (t len : Nat) : Bool :=
  match P.underlying t with
  | some (.array l e) => l == len && (match P.underlying e with | some .bool => true | _ => false) && sizeOk P e 1
  | _ => false

/-- One out of a row of bools that is a value. -/
theorem val_atB {t len : Nat} {x ix : Operand} {kk : IntKind} (cs : List Value) (v : Value) (j : Nat) {i : Int} (h : arrBool P t len = true) (ho : o.op = .index t x ix) (hx : ev σ x = some (.agg cs.toArray)) (hi : ev σ ix = some (.int kk i))
    (hij : i = (j : Int)) (hj : j < len) (hc : cs[j]? = some v) (w : World) : Val P n σ o w v := by
  intro a ha
  subst hij
  unfold arrBool at h
  split at h
  · rename_i l e hu
    simp only [Bool.and_eq_true, beq_iff_eq] at h
    obtain ⟨⟨rfl, h1⟩, h2⟩ := h
    split at h1
    · rename_i hk
      have hg : cs.toArray[j]? = some v := by simpa using hc
      simp [execOp, ho, ha.eval hx, ha.eval hi, Instr.index, asIntOf, run_underlying hu, hj, sizeOk_run h2, part, isAgg, run_underlying hk]
      simp [hc]
    · cases h1
  · cases h

theorem opTo_make {t e : TypeId} {l c : Operand} {k1 k2 : IntKind} {K : Value → World → Prop} (len : Nat) (cells : List Value) (i : TypeInfo) (z : Value) (ho : o.op = .makeSlice t l c) (hl : ev σ l = some (.int k1 (len : Nat))) (hc : ev σ c = some (.int k2 (len : Nat)))
    (ht : P.underlying t = some (.slice e)) (hi : P.info? e = some i) (hz : i.zero = some z) (hb : (i.bytes : Int) * ((len : Nat) : Int) ≤ 281474976710656) (h63 : ((len : Nat) : Int) ≤ 9223372036854775807)
    (hcells : madeCells z.cells (len * i.size) = cells.toArray) (hK : K (.slice (some ⟨w.heap.size, 0, none⟩) len len) (w.alloc (.cells cells.toArray e))) : OpTo P n σ o w K := by
  refine opTo_run (w' := w.alloc (.cells cells.toArray e)) (v := .slice (some ⟨w.heap.size, 0, none⟩) len len) (fun a ha => ?_) hK
  have hr := run_make (P := P) w t e i z ht hi hz k1 k2 ((len : Nat) : Int) ((len : Nat) : Int) (by omega) (Int.le_refl _) hb h63
  simp only [Int.toNat_natCast] at hr
  rw [hcells] at hr
  simp [execOp, ho, ha.eval hl, ha.eval hc, hr]
end
end E
end Go.Proofs.Ytcgigfnbjmlhhad

/- Short laws for the steps that come most: a comparison that is so, or is not; a sum within bounds. -/
namespace Go.Proofs.Ytcgigfnbjmlhhad
set_option maxRecDepth 20000
set_option maxHeartbeats 4000000
namespace E

def cmpP (op : BinOp) (a b : Int) : Prop :=
  match op with
  | .eql => a = b
  | .neq => a ≠ b
  | .lss => a < b
  | .leq => a ≤ b
  | .gtr => a > b
  | .geq => a ≥ b
  | _ => False
def cmpOk (op : BinOp) : Bool :=
  match op with
  | .eql | .neq | .lss | .leq | .gtr | .geq => true
  | _ => false
theorem intOp_yes {op : BinOp} {k : IntKind} {a b : Int} (h : cmpP op a b) : intOp op k a b = some (.bool true) := by
  cases op <;> simp_all [cmpP, intOp]
theorem intOp_no {op : BinOp} {k : IntKind} {a b : Int} (hk : cmpOk op = true) (h : ¬ cmpP op a b) : intOp op k a b = some (.bool false) := by
  cases op <;> simp_all [cmpP, cmpOk, intOp]
def ariP (op : BinOp) (a b v : Int) : Prop :=
  match op with
  | .add => v = a + b ∧ -9223372036854775808 ≤ a + b ∧ a + b < 9223372036854775808
  | .sub => v = a - b ∧ -9223372036854775808 ≤ a - b ∧ a - b < 9223372036854775808
  | _ => False
theorem intOp_num {op : BinOp} {a b v : Int} (h : ariP op a b v) : intOp op .i64 a b = some (.int .i64 v) := by
  cases op <;> simp only [ariP] at h
  · obtain ⟨rfl, h1, h2⟩ := h
    simp only [intOp, wrap_i64 h1 h2]
  · obtain ⟨rfl, h1, h2⟩ := h
    simp only [intOp, wrap_i64 h1 h2]

section
variable {P : Program} {f n : Nat} {ops : Array Oper} {k : List Item} {R : Post} {σ : Env} {w : World} {o : Oper} {l : List Oper} {op : BinOp} {t t' : TypeId} {x y : Operand} {kk : IntKind} {a b : Int}

theorem pl_yes (hg : guardOf ops σ o.guard = some true) (ho : o.op = .binOp op t x y t') (hx : ev σ x = some (.int kk a)) (hy : ev σ y = some (.int kk b)) (hd : dstOk n o.dst = true) (hc : cmpP op a b)
    (h : Pl P f n ops k R l (put σ o.dst (.bool true)) w) : Pl P f n ops k R (o :: l) σ w := pl_val _ hg hd (val_int kk a b _ ho hx hy (intOp_yes hc) w) h
theorem pl_no (hg : guardOf ops σ o.guard = some true) (ho : o.op = .binOp op t x y t') (hx : ev σ x = some (.int kk a)) (hy : ev σ y = some (.int kk b)) (hd : dstOk n o.dst = true) (hk : cmpOk op = true) (hc : ¬ cmpP op a b)
    (h : Pl P f n ops k R l (put σ o.dst (.bool false)) w) : Pl P f n ops k R (o :: l) σ w := pl_val _ hg hd (val_int kk a b _ ho hx hy (intOp_no hk hc) w) h
theorem pl_num (v : Int) (hg : guardOf ops σ o.guard = some true) (ho : o.op = .binOp op t x y t') (hx : ev σ x = some (.int .i64 a)) (hy : ev σ y = some (.int .i64 b)) (hd : dstOk n o.dst = true) (hc : ariP op a b v)
    (h : Pl P f n ops k R l (put σ o.dst (.int .i64 v)) w) : Pl P f n ops k R (o :: l) σ w := pl_val _ hg hd (val_int .i64 a b _ ho hx hy (intOp_num hc) w) h

variable {S : World → Prop} {T : List Nat} {fuel m : Nat}
theorem dr_yes (i : Nat) (hi : ops[i]? = some o) (hk : takeOk ops m i = true) (hg : guardOf ops σ o.guard = some true) (ho : o.op = .binOp op t x y t') (hx : ev σ x = some (.int kk a)) (hy : ev σ y = some (.int kk b)) (hd : dstOk n o.dst = true) (hc : cmpP op a b)
    (h : Dr P f n ops k R S T fuel (m ||| 2 ^ i) (put σ o.dst (.bool true)) w) : Dr P f n ops k R S T (fuel + 1) m σ w := dr_any i _ hi hk hg hd (fun w => val_int kk a b _ ho hx hy (intOp_yes hc) w) h
theorem dr_no (i : Nat) (hi : ops[i]? = some o) (hk : takeOk ops m i = true) (hg : guardOf ops σ o.guard = some true) (ho : o.op = .binOp op t x y t') (hx : ev σ x = some (.int kk a)) (hy : ev σ y = some (.int kk b)) (hd : dstOk n o.dst = true) (hok : cmpOk op = true) (hc : ¬ cmpP op a b)
    (h : Dr P f n ops k R S T fuel (m ||| 2 ^ i) (put σ o.dst (.bool false)) w) : Dr P f n ops k R S T (fuel + 1) m σ w := dr_any i _ hi hk hg hd (fun w => val_int kk a b _ ho hx hy (intOp_no hok hc) w) h
theorem dr_num (i : Nat) (v : Int) (hi : ops[i]? = some o) (hk : takeOk ops m i = true) (hg : guardOf ops σ o.guard = some true) (ho : o.op = .binOp op t x y t') (hx : ev σ x = some (.int .i64 a)) (hy : ev σ y = some (.int .i64 b)) (hd : dstOk n o.dst = true) (hc : ariP op a b v)
    (h : Dr P f n ops k R S T fuel (m ||| 2 ^ i) (put σ o.dst (.int .i64 v)) w) : Dr P f n ops k R S T (fuel + 1) m σ w := dr_any i _ hi hk hg hd (fun w => val_int .i64 a b _ ho hx hy (intOp_num hc) w) h
theorem tg_yes {i : Nat} (hi : ops[i]? = some o) (hk : takeOk ops m i = true) (hg : guardOf ops σ o.guard = some true) (ho : o.op = .binOp op t x y t') (hx : ev σ x = some (.int kk a)) (hy : ev σ y = some (.int kk b)) (hd : dstOk n o.dst = true) (hc : cmpP op a b) :
    Tg i (Dr P f n ops k R S T fuel (m ||| 2 ^ i) (put σ o.dst (.bool true)) w → Dr P f n ops k R S T (fuel + 1) m σ w) := fun h => dr_yes i hi hk hg ho hx hy hd hc h
theorem tg_no {i : Nat} (hi : ops[i]? = some o) (hk : takeOk ops m i = true) (hg : guardOf ops σ o.guard = some true) (ho : o.op = .binOp op t x y t') (hx : ev σ x = some (.int kk a)) (hy : ev σ y = some (.int kk b)) (hd : dstOk n o.dst = true) (hok : cmpOk op = true) (hc : ¬ cmpP op a b) :
    Tg i (Dr P f n ops k R S T fuel (m ||| 2 ^ i) (put σ o.dst (.bool false)) w → Dr P f n ops k R S T (fuel + 1) m σ w) := fun h => dr_no i hi hk hg ho hx hy hd hok hc h
end

section
variable {P : Program} {n : Nat} {σ : Env} {o : Oper} {w : World} {v : Value} {K : Value → World → Prop}
theorem opTo_boxN {t : TypeId} {x : Operand} (cs : List Value) (ho : o.op = .box t x) (hx : ev σ x = some v) (hc : v.cells = cs.toArray)
    (hK : ∀ w1 b, b = w.heap.size → w1.heap.size = b + 1 → Keep [] w w1 → Blk w1 b cs t → K (.pointer (some ⟨b, 0, none⟩)) w1) : OpTo P n σ o w K :=
  opTo_box cs ho hx hc (hK _ _ rfl (World.size_alloc _ _) ((Keep.refl _ _).alloc _) (Blk.new _ _ _))
theorem opTo_allocN {t : TypeId} (cs : List Value) (ho : o.op = .alloc t) (hz : ((P.info? t).bind (·.zero)).map (·.cells) = some cs.toArray)
    (hK : ∀ w1 b, b = w.heap.size → w1.heap.size = b + 1 → Keep [] w w1 → Blk w1 b cs t → K (.pointer (some ⟨b, 0, none⟩)) w1) : OpTo P n σ o w K :=
  opTo_alloc cs ho hz (hK _ _ rfl (World.size_alloc _ _) ((Keep.refl _ _).alloc _) (Blk.new _ _ _))
theorem opTo_sliceN {t len : Nat} {ps : Array (Nat × Operand)} {vs : List (Nat × Value)} (e : TypeId) (cells : List Value) (ho : o.op = .buildSlice t len ps) (hv : evParts σ ps.toList = some vs)
    (hb : sliceCells P t len vs = some (e, cells.toArray)) (hK : ∀ w1 b, b = w.heap.size → w1.heap.size = b + 1 → Keep [] w w1 → Blk w1 b cells e → K (.slice (some ⟨b, 0, none⟩) len len) w1) : OpTo P n σ o w K :=
  opTo_buildSlice e cells ho hv hb (hK _ _ rfl (World.size_alloc _ _) ((Keep.refl _ _).alloc _) (Blk.new _ _ _))
theorem opTo_storeN {t : TypeId} {x y : Operand} {b i : Nat} {L : List Value} {e : TypeId} (cs : List Value) (ho : o.op = .store t x y) (hx : ev σ x = some (.pointer (some ⟨b, i, none⟩))) (hy : ev σ y = some v) (hc : v.cells = cs.toArray)
    (hz : sizeOk P t cs.length = true) (hb : Blk w b L e) (hl : i + cs.length ≤ L.length) (h1 : ∀ u ∈ cs, u.oneCell' = true)
    (hK : ∀ w1, w1.heap.size = w.heap.size → Keep [b] w w1 → Blk w1 b (splice L i cs) e → K undef w1) : OpTo P n σ o w K :=
  opTo_store cs ho hx hy hc hz hb hl h1 (hK _ (setRow_size _ _ _) ((Keep.refl _ _).setRow _ _ (.inl (by simp))) (hb.set _))
end
theorem Keep.trB {fp : List Nat} {w w' w'' : World} {b : Nat} (h : Keep fp w w') (h' : Keep [b] w' w'') (hb : w.heap.size ≤ b) : Keep fp w w'' :=
  h.trans h' fun k hk => .inr (by simp at hk; omega)
theorem blk_loadVar {P : Program} {T : Tbl} {w : World} {c : Nat} {L : List Value} {e t : TypeId} (hT : T.check P = true) (h : Blk w c L e) (ht : find T.ag t = some L.length) : (loadVar t ⟨c, 0, none⟩).run P w = .ok (.agg L.toArray) w :=
  loadVar_agg hT ht (h.range (by simp))
theorem splice_whole {L cs : List Value} (h : cs.length = L.length) : splice L 0 cs = cs := by
  simp [splice, h]

/-- What F allows is there. -/
def In (F : Nat → Prop) (w : World) : Prop := ∀ k, F k → k < w.heap.size
section
variable {F : Nat → Prop} {w w' : World} {fp : List Nat}
theorem In.keep (h : In F w) (hk : Keep fp w w') : In F w' := fun k hF => Nat.lt_of_lt_of_le (h k hF) hk.size
theorem In.lt (w : World) : In (fun b => b < w.heap.size) w := fun _ h => h
end
theorem range_keep {w w' : World} {b q : Nat} {cs : List Value} {fp : List Nat} (h : w.rangeAt b q cs) (hk : Keep fp w w') (hb : b < w.heap.size) (hn : b ∉ fp) : w'.rangeAt b q cs := fun j v hv => by
  rw [World.cell?_of_block (w := w) (hk.block b hb hn)]
  exact h j v hv

end E
end Go.Proofs.Ytcgigfnbjmlhhad

/- Reading an argument: rows of integers, and lists chosen index by index. -/
namespace Go.Proofs.Ytcgigfnbjmlhhad
set_option maxRecDepth 20000
set_option maxHeartbeats 4000000
namespace E

section
variable {H : Type} {enc : TypeId × Value → H} {P : Program} {w : World} {base : Nat} {spare : Nat → Bool} {held : Bool} {fuel : Nat} {t : TypeId} {cs : List Value} {x : DataW H × List MemPlace}

theorem trod_int1 {k : IntKind} (ht : P.underlying t = some (.int k)) (h : DataW.trod enc P w base spare held fuel t cs = some x) : ∃ n, cs = [.int k n] ∧ (Lit.int k n).wf = true := by
  obtain ⟨n, h1, _, h3⟩ := DataW.trod_int ht h
  exact ⟨n, h1, h3⟩

/-- Numbers, of a family of facts. -/
theorem choose_list {α : Type} {p : Nat → α → Prop} : ∀ n, (∀ i, i < n → ∃ a, p i a) → ∃ l : List α, l.length = n ∧ ∀ i a, l[i]? = some a → p i a
  | 0, _ => ⟨[], rfl, fun i a h => by simp at h⟩
  | n + 1, h => by
    obtain ⟨l, hl, hp⟩ := choose_list n fun i hi => h i (Nat.lt_succ_of_lt hi)
    obtain ⟨a, ha⟩ := h n (Nat.lt_succ_self n)
    refine ⟨l ++ [a], by simp [hl], fun i b hb => ?_⟩
    rcases Nat.lt_or_ge i l.length with hlt | hge
    · rw [List.getElem?_append_left hlt] at hb
      exact hp i b hb
    · rw [List.getElem?_append_right hge] at hb
      have : i - l.length = 0 := by
        rcases Nat.eq_zero_or_pos (i - l.length) with h0 | h0
        · exact h0
        · rw [List.getElem?_eq_none (by simp; omega)] at hb; cases hb
      rw [this] at hb
      simp at hb
      subst hb
      have hi : i = n := by omega
      rw [hi]; exact ha

/-- An array of integers. -/
theorem trod_ints {n e : Nat} {k : IntKind} (ht : P.underlying t = some (.array n e)) (he : P.underlying e = some (.int k)) (hc : P.cellsOf e = 1) (hn : P.cellsOf t = n) (h : DataW.trod enc P w base spare held fuel t cs = some x) :
    ∃ ns : List Int, cs = ns.map (fun z => Value.int k z) ∧ ns.length = n := by
  obtain ⟨xs, m, _, _, hl, hlen, hx⟩ := DataW.trod_array ht h
  have hall : ∀ i, i < n → ∃ z : Int, cs[i]? = some (.int k z) := fun i hi => by
    have h1 := hx i hi
    rw [hc, Nat.mul_one, List.getElem?_eq_getElem (by omega)] at h1
    obtain ⟨z, hz, _⟩ := trod_int1 he h1
    refine ⟨z, ?_⟩
    have : ((cs.drop i).take 1)[0]? = some (.int k z) := by rw [hz]; rfl
    simpa using this
  obtain ⟨ns, hns, hp⟩ := choose_list n hall
  refine ⟨ns, ?_, hns⟩
  apply List.ext_getElem?
  intro i
  rcases Nat.lt_or_ge i n with hi | hi
  · have h1 : ns[i]? = some ns[i] := List.getElem?_eq_getElem (by omega)
    rw [hp i _ h1]
    simp [h1]
  · rw [List.getElem?_eq_none (by omega), List.getElem?_eq_none (by simp; omega)]

theorem cells?_get {a : Addr} {n : Nat} (h : w.cells? base a n = some cs) : cs.length = n ∧ ∀ j v, cs[j]? = some v → w.cell? (a.add j) = some v := by
  unfold World.cells? at h
  split at h
  · have hl := mapM_some_length h
    simp only [List.length_range] at hl
    refine ⟨hl, fun j v hv => ?_⟩
    have hj : j < n := by
      have := (List.getElem?_eq_some_iff.1 hv).1
      omega
    have := mapM_some_get h j j (by simp [hj])
    rw [this]; exact hv
  · cases h

theorem flat_get {α : Type} {f : α → List Value} {k : Nat} (hk : 0 < k) : ∀ {L : List α} {j : Nat} {v : Value}, (∀ p ∈ L, (f p).length = k) → (L.flatMap f)[j]? = some v → ∃ p, L[j / k]? = some p ∧ (f p)[j % k]? = some v
  | [], _, _, _, h => by simp at h
  | a :: r, j, v, hl, h => by
    have ha := hl a (by simp)
    rw [List.flatMap_cons] at h
    rcases Nat.lt_or_ge j k with hj | hj
    · rw [List.getElem?_append_left (by omega)] at h
      exact ⟨a, by rw [Nat.div_eq_of_lt hj]; rfl, by rw [Nat.mod_eq_of_lt hj]; exact h⟩
    · rw [List.getElem?_append_right (by omega), ha] at h
      obtain ⟨p, h1, h2⟩ := flat_get hk (fun p hp => hl p (List.mem_cons_of_mem _ hp)) h
      refine ⟨p, ?_, ?_⟩
      · have : j / k = (j - k) / k + 1 := by
          rw [← Nat.add_div_right _ hk, Nat.sub_add_cancel hj]
        rw [this]; exact h1
      · rw [Nat.mod_eq_sub_mod hj]; exact h2
end
end E
end Go.Proofs.Ytcgigfnbjmlhhad

/- Reading an argument: a slice whose elements are known. -/
namespace Go.Proofs.Ytcgigfnbjmlhhad
set_option maxRecDepth 20000
set_option maxHeartbeats 4000000
namespace E

section
variable {H : Type} {enc : TypeId × Value → H} {P : Program} {w : World} {held : Bool} {fuel : Nat} {t e : TypeId} {cs : List Value} {x : DataW H × List MemPlace} {α : Type}

theorem open_list (f : α → List Value) (Q : α → Prop) (k : Nat) (hk : 0 < k) (ht : P.underlying t = some (.slice e)) (hc : P.cellsOf e = k) (hf : ∀ s, Q s → (f s).length = k)
    (hel : ∀ n cs x, DataW.trod enc P w 0 (fun _ => true) held n e cs = some x → ∃ s, cs = f s ∧ Q s) (h : DataW.trod enc P w 0 (fun _ => true) held fuel t cs = some x) :
    ∃ (a : Option Addr) (cap : Nat) (L : List α), cs = [.slice a L.length cap] ∧ (L ≠ [] → ∃ b q, a = some ⟨b, q, none⟩ ∧ b < w.heap.size ∧ w.rangeAt b q (L.flatMap f)) ∧ ∀ s ∈ L, Q s := by
  rcases Go.Deep.open_slice ht h with ⟨hcs, _⟩ | ⟨a, len, cap, m, n, D, Pl, hcs, _, hl, _, hm, _, hall⟩
  · exact ⟨none, 0, [], hcs, fun h => absurd rfl h, by simp⟩
  · simp only [if_true] at hm
    rw [hc] at hall
    have hel' : ∀ i, i < len → ∃ s : α, Q s ∧ ∀ j u, (f s)[j]? = some u → w.cell? (a.add (i * k + j)) = some u := fun i hi => by
      obtain ⟨cs', h1, h2⟩ := hall i (by omega)
      obtain ⟨s, rfl, hq⟩ := hel _ _ _ h2
      refine ⟨s, hq, fun j u hu => ?_⟩
      have := (cells?_get h1).2 j u hu
      rwa [Go.Deep.add_add] at this
    obtain ⟨L, hL, hp⟩ := choose_list len hel'
    have hQ : ∀ s ∈ L, Q s := fun s hs => by
      obtain ⟨i, hi⟩ := List.getElem?_of_mem hs
      exact (hp i s hi).1
    refine ⟨some a, cap, L, by rw [hcs, hL], fun hne => ?_, hQ⟩
    have hcell : ∀ j u, (L.flatMap f)[j]? = some u → w.cell? (a.add j) = some u := fun j u hu => by
      obtain ⟨s, h1, h2⟩ := flat_get hk (fun p hp => hf p (hQ p hp)) hu
      have := (hp _ s h1).2 _ u h2
      rwa [Nat.mul_comm, Nat.div_add_mod] at this
    obtain ⟨u0, hu0⟩ : ∃ u, (L.flatMap f)[0]? = some u := by
      cases L with
      | nil => exact absurd rfl hne
      | cons s r =>
        have hs := hf s (hQ s (by simp))
        refine ⟨(f s)[0]'(by omega), ?_⟩
        rw [List.flatMap_cons, List.getElem?_append_left (by omega), List.getElem?_eq_getElem (by omega)]
    have hc0 := hcell 0 u0 hu0
    have hsp : a.spot = none := by
      have := World.cell?_spot hc0
      simpa [Addr.add] using this
    obtain ⟨b, q, sp⟩ := a
    simp only at hsp
    subst hsp
    refine ⟨b, q, rfl, ?_, fun j u hu => by have := hcell j u hu; rwa [Addr.add_mid] at this⟩
    have := World.block_lt_of_cell? w _ hc0
    simpa [Addr.add] using this
end
end E
end Go.Proofs.Ytcgigfnbjmlhhad

/- Reading an argument: trees of expressions and of statements. -/
namespace Go.Proofs.Ytcgigfnbjmlhhad
set_option maxRecDepth 20000
set_option maxHeartbeats 4000000
namespace E

section
variable {H : Type} {enc : TypeId × Value → H} {P : Program} {w : World} {base : Nat} {spare : Nat → Bool} {held : Bool}

theorem open_rows {α : Type} {Q : List Value → α → Prop} {fuel : Nat} {t e : TypeId} {cs : List Value} {x : DataW H × List MemPlace} (k : Nat) (hk : 0 < k) (ht : P.underlying t = some (.slice e)) (hc : P.cellsOf e = k)
    (hel : ∀ n, n < fuel → ∀ cs x, DataW.trod enc P w base spare held n e cs = some x → ∃ s, Q cs s) (h : DataW.trod enc P w base spare held fuel t cs = some x) :
    ∃ (a : Option Addr) (cap : Nat) (L : List α) (cc : Nat → List Value), cs = [.slice a L.length cap] ∧ RowAt (fun b => b < w.heap.size) w k a L.length cc ∧ (∀ i (hi : i < L.length), Q (cc i) (L[i]'hi)) ∧ L.length ≤ cap := by
  rcases DataW.trod_slice ht h with ⟨hcs, _⟩ | ⟨a, len, cap, elems, rest, n, hn, hcs, _, _, hcap, _, hlen, hall, _⟩
  · exact ⟨none, 0, [], fun _ => [], hcs, fun h => absurd h (by simp), fun i hi => by simp at hi, by simp⟩
  · rw [hc] at hall
    have hel' : ∀ i, i < len → ∃ s : List Value × α, Q s.1 s.2 ∧ w.cells? base (a.add (i * k)) k = some s.1 := fun i hi => by
      have h1 := hall i hi
      rw [List.getElem?_eq_getElem (by omega)] at h1
      cases hcl : w.cells? base (a.add (i * k)) k with
      | none => rw [hcl] at h1; cases h1
      | some cs' =>
        rw [hcl] at h1
        obtain ⟨s, hs⟩ := hel n (by omega) cs' _ h1
        exact ⟨(cs', s), hs, rfl⟩
    obtain ⟨L, hL, hp⟩ := choose_list len hel'
    have hget : ∀ i (hi : i < L.length), (((L[i]?).map (·.1)).getD []) = (L[i]'hi).1 := fun i hi => by rw [List.getElem?_eq_getElem hi]; rfl
    refine ⟨some a, cap, L.map (·.2), fun i => ((L[i]?).map (·.1)).getD [], by rw [hcs, List.length_map, hL], ?_, fun i hi => ?_, by rw [List.length_map, hL]; exact hcap⟩
    · intro h0
      rw [List.length_map] at h0
      have hcell : ∀ i (hi : i < L.length) j v, (L[i]'hi).1[j]? = some v → w.cell? (a.add (i * k + j)) = some v := fun i hi j v hv => by
        have := (cells?_get (hp i _ (List.getElem?_eq_getElem hi)).2).2 j v hv
        rwa [Go.Deep.add_add] at this
      have hl0 : (L[0]'h0).1.length = k := (cells?_get (hp 0 _ (List.getElem?_eq_getElem h0)).2).1
      have hc0 := hcell 0 h0 0 ((L[0]'h0).1[0]'(by omega)) (List.getElem?_eq_getElem (by omega))
      have hsp : a.spot = none := by
        have := World.cell?_spot hc0
        simpa [Addr.add] using this
      obtain ⟨b, q, sp⟩ := a
      simp only at hsp
      subst hsp
      refine ⟨b, q, rfl, ?_, fun i hi j v hv => ?_⟩
      · have := World.block_lt_of_cell? w _ hc0
        simpa [Addr.add] using this
      · rw [List.length_map] at hi
        replace hv : (((L[i]?).map (·.1)).getD [])[j]? = some v := hv
        rw [hget i hi] at hv
        have := hcell i hi j v hv
        rw [Addr.add_mid] at this
        rw [Nat.add_assoc]
        exact this
    · rw [List.length_map] at hi
      show Q (((L[i]?).map (·.1)).getD []) _
      rw [hget i hi, List.getElem_map]
      exact (hp i _ (List.getElem?_eq_getElem hi)).1

/-- An expression's four cells, each read. -/
def ExprSplit (enc : TypeId × Value → H) (P : Program) (w : World) (base : Nat) (spare : Nat → Bool) (held : Bool) (tI tL tLE tE : TypeId) : Prop :=
  ∀ fuel cs x, DataW.trod enc P w base spare held fuel tE cs = some x → ∃ n c0 c1 c2 c3, fuel = n + 1 ∧ cs = [c0, c1, c2, c3] ∧
    (∃ y, DataW.trod enc P w base spare held n tI [c0] = some y) ∧ (∃ y, DataW.trod enc P w base spare held n tI [c1] = some y) ∧ (∃ y, DataW.trod enc P w base spare held n tL [c2] = some y) ∧ (∃ y, DataW.trod enc P w base spare held n tLE [c3] = some y)
/-- A statement's cells, each part read. -/
def StmtSplit (enc : TypeId × Value → H) (P : Program) (w : World) (base : Nat) (spare : Nat → Bool) (held : Bool) (tI tE tLS tS : TypeId) : Prop :=
  ∀ fuel cs x, DataW.trod enc P w base spare held fuel tS cs = some x → ∃ n c0 c1 ce cf cb co, fuel = n + 1 ∧ cs = [c0, c1] ++ ce ++ cf ++ [cb, co] ∧
    (∃ y, DataW.trod enc P w base spare held n tI [c0] = some y) ∧ (∃ y, DataW.trod enc P w base spare held n tI [c1] = some y) ∧ (∃ y, DataW.trod enc P w base spare held n tE ce = some y) ∧ (∃ y, DataW.trod enc P w base spare held n tE cf = some y) ∧
    (∃ y, DataW.trod enc P w base spare held n tLS [cb] = some y) ∧ (∃ y, DataW.trod enc P w base spare held n tLS [co] = some y)

theorem int_cell {tI : TypeId} {n : Nat} {c : Value} {y : DataW H × List MemPlace} (hI : P.underlying tI = some (.int .i64)) (h : DataW.trod enc P w base spare held n tI [c] = some y) : ∃ z, c = .int .i64 z := by
  obtain ⟨z, hz, _⟩ := trod_int1 hI h
  simp at hz
  exact ⟨z, hz⟩

theorem trod_expr {tI tL tLE tE : TypeId} (hI : P.underlying tI = some (.int .i64)) (hL : P.underlying tL = some (.int .i64)) (hLE : P.underlying tLE = some (.slice tE)) (hc : P.cellsOf tE = 4) (hsp : ExprSplit enc P w base spare held tI tL tLE tE) :
    ∀ (fuel : Nat) (cs : List Value) (x : DataW H × List MemPlace), DataW.trod enc P w base spare held fuel tE cs = some x → ∃ t, ExprV (fun b => b < w.heap.size) w cs t := by
  intro fuel
  induction fuel using Nat.strongRecOn with
  | _ fuel ih =>
    intro cs x h
    obtain ⟨n, c0, c1, c2, c3, hn, rfl, ⟨_, h0⟩, ⟨_, h1⟩, ⟨_, h2⟩, ⟨_, h3⟩⟩ := hsp fuel cs x h
    obtain ⟨op, rfl⟩ := int_cell hI h0
    obtain ⟨v, rfl⟩ := int_cell hI h1
    obtain ⟨z, rfl⟩ := int_cell hL h2
    obtain ⟨a, cap, L, cc, hcs, hr, hq, _⟩ := open_rows (Q := ExprV (fun b => b < w.heap.size) w) 4 (by decide) hLE hc (fun m hm cs x h => ih m (by omega) cs x h) h3
    simp at hcs
    subst hcs
    exact ⟨.mk op v z L, .mk cc hr hq⟩

theorem trod_stmt {tI tL tLE tE tLS tS : TypeId} (hI : P.underlying tI = some (.int .i64)) (hL : P.underlying tL = some (.int .i64)) (hLE : P.underlying tLE = some (.slice tE)) (hc : P.cellsOf tE = 4) (hsp : ExprSplit enc P w base spare held tI tL tLE tE)
    (hLS : P.underlying tLS = some (.slice tS)) (hcS : P.cellsOf tS = 12) (hspS : StmtSplit enc P w base spare held tI tE tLS tS) :
    ∀ (fuel : Nat) (cs : List Value) (x : DataW H × List MemPlace), DataW.trod enc P w base spare held fuel tS cs = some x → ∃ t, StmtV (fun b => b < w.heap.size) w cs t := by
  intro fuel
  induction fuel using Nat.strongRecOn with
  | _ fuel ih =>
    intro cs x h
    obtain ⟨n, c0, c1, ce, cf, cb, co, hn, rfl, ⟨_, h0⟩, ⟨_, h1⟩, ⟨_, h2⟩, ⟨_, h3⟩, ⟨_, h4⟩, ⟨_, h5⟩⟩ := hspS fuel cs x h
    obtain ⟨op, rfl⟩ := int_cell hI h0
    obtain ⟨v, rfl⟩ := int_cell hI h1
    obtain ⟨e, he⟩ := trod_expr hI hL hLE hc hsp n ce _ h2
    obtain ⟨f, hf⟩ := trod_expr hI hL hLE hc hsp n cf _ h3
    obtain ⟨ab, capb, Lb, ccb, hcb, hrb, hqb, _⟩ := open_rows (Q := StmtV (fun b => b < w.heap.size) w) 12 (by decide) hLS hcS (fun m hm cs x h => ih m (by omega) cs x h) h4
    obtain ⟨ao, capo, Lo, cco, hco, hro, hqo, _⟩ := open_rows (Q := StmtV (fun b => b < w.heap.size) w) 12 (by decide) hLS hcS (fun m hm cs x h => ih m (by omega) cs x h) h5
    simp at hcb hco
    subst hcb
    subst hco
    exact ⟨.mk op v e f Lb Lo, .mk ccb cco he hf hrb hqb hro hqo⟩
end
end E
end Go.Proofs.Ytcgigfnbjmlhhad

/- Variables of a program, as they lie in memory and as they are read. -/
namespace Go.Proofs.Ytcgigfnbjmlhhad
set_option maxRecDepth 20000
set_option maxHeartbeats 4000000
namespace E

def vcell (x : VarT) : List Value := [.string x.1, .int .i64 x.2]

/-- A slice of variables. -/
def VarsV (F : Nat → Prop) (w : World) (v : Value) (l : List VarT) : Prop :=
  ∃ a cap, v = .slice a l.length cap ∧ l.length ≤ cap ∧ RowAt F w 2 a l.length (fun i => vcell (l.getD i (ByteArray.empty, 0)))

section
variable {F F' : Nat → Prop} {w w' : World} {v : Value} {l : List VarT}
theorem VarsV.keep {fp : List Nat} (h : VarsV F w v l) (hk : Keep fp w w') (hs : Stays F w fp) : VarsV F w' v l := by
  obtain ⟨a, cap, hv, hc, hr⟩ := h
  exact ⟨a, cap, hv, hc, hr.keep hk hs⟩
theorem VarsV.mono (h : VarsV F w v l) (hF : ∀ b, F b → F' b) : VarsV F' w v l := by
  obtain ⟨a, cap, hv, hc, hr⟩ := h
  exact ⟨a, cap, hv, hc, hr.mono hF⟩
theorem VarsV.form (h : VarsV F w v l) : ∃ a cap, v = .slice a l.length cap := by
  obtain ⟨a, cap, hv, _⟩ := h
  exact ⟨a, cap, hv⟩
theorem VarsV.room {a : Option Addr} {cap : Nat} (h : VarsV F w (.slice a l.length cap) l) : l.length ≤ cap := by
  obtain ⟨a', cap', hv, hc, _⟩ := h
  cases hv
  exact hc
theorem VarsV.at (h : VarsV F w v l) {i : Nat} {x : VarT} (hx : l[i]? = some x) : ∃ b q cap, v = .slice (some ⟨b, q, none⟩) l.length cap ∧ F b ∧ w.rangeAt b (q + i * 2) (vcell x) := by
  obtain ⟨a, cap, hv, _, hr⟩ := h
  obtain ⟨hlt, e⟩ := List.getElem?_eq_some_iff.1 hx
  obtain ⟨b, q, ha, hF, hra⟩ := hr (by omega)
  have this : w.rangeAt b (q + i * 2) (vcell (l.getD i (ByteArray.empty, 0))) := hra i hlt
  rw [List.getD_eq_getElem?_getD, hx] at this
  exact ⟨b, q, cap, by rw [hv, ha], hF, this⟩
end

/-- A program as a value: its variables, its body. -/
def ProgV (F : Nat → Prop) (w : World) (v : Value) (vs : List VarT) (b : List ST) : Prop := ∃ vv bv, v = .agg #[vv, bv] ∧ VarsV F w vv vs ∧ StmtsV F w bv b
theorem ProgV.keep {F : Nat → Prop} {w w' : World} {v : Value} {vs : List VarT} {b : List ST} {fp : List Nat} (h : ProgV F w v vs b) (hk : Keep fp w w') (hs : Stays F w fp) : ProgV F w' v vs b := by
  obtain ⟨vv, bv, hv, h1, h2⟩ := h
  exact ⟨vv, bv, hv, h1.keep hk hs, h2.keep hk hs⟩
theorem ProgV.mono {F F' : Nat → Prop} {w : World} {v : Value} {vs : List VarT} {b : List ST} (h : ProgV F w v vs b) (hF : ∀ b, F b → F' b) : ProgV F' w v vs b := by
  obtain ⟨vv, bv, hv, h1, h2⟩ := h
  exact ⟨vv, bv, hv, h1.mono hF, h2.mono hF⟩

section
variable {H : Type} {enc : TypeId × Value → H} {P : Program} {w : World} {base : Nat} {spare : Nat → Bool} {held : Bool}
/-- A variable's two cells, each read. -/
def VarSplit (enc : TypeId × Value → H) (P : Program) (w : World) (base : Nat) (spare : Nat → Bool) (held : Bool) (tStr tI tV : TypeId) : Prop :=
  ∀ fuel cs x, DataW.trod enc P w base spare held fuel tV cs = some x → ∃ n c0 c1, fuel = n + 1 ∧ cs = [c0, c1] ∧ (∃ y, DataW.trod enc P w base spare held n tStr [c0] = some y) ∧ (∃ y, DataW.trod enc P w base spare held n tI [c1] = some y)

theorem trod_vars {tStr tI tLV tV : TypeId} (hS : P.underlying tStr = some .string) (hI : P.underlying tI = some (.int .i64)) (hLV : P.underlying tLV = some (.slice tV)) (hc : P.cellsOf tV = 2) (hsp : VarSplit enc P w base spare held tStr tI tV)
    {fuel : Nat} {cs : List Value} {x : DataW H × List MemPlace} (h : DataW.trod enc P w base spare held fuel tLV cs = some x) : ∃ vv l, cs = [vv] ∧ VarsV (fun b => b < w.heap.size) w vv l := by
  obtain ⟨a, cap, L, cc, hcs, hr, hq, hcap⟩ := open_rows (Q := fun cs (x : VarT) => cs = vcell x) 2 (by decide) hLV hc (fun m _ cs x h => by
    obtain ⟨n, c0, c1, _, rfl, ⟨_, h0⟩, ⟨_, h1⟩⟩ := hsp m cs x h
    obtain ⟨s, hs, _⟩ := DataW.trod_string hS h0
    obtain ⟨z, hz⟩ := int_cell hI h1
    simp at hs
    exact ⟨(s, z), by rw [hs, hz]; rfl⟩) h
  refine ⟨_, L, hcs, a, cap, rfl, hcap, fun h0 => ?_⟩
  obtain ⟨b, q, ha, hF, hra⟩ := hr h0
  refine ⟨b, q, ha, hF, fun i hi => ?_⟩
  have := hra i hi
  rw [hq i hi] at this
  show w.rangeAt b (q + i * 2) (vcell (L.getD i (ByteArray.empty, 0)))
  rw [List.getD_eq_getElem?_getD, List.getElem?_eq_getElem hi]
  exact this
end
end E
end Go.Proofs.Ytcgigfnbjmlhhad

/- Functions with several results; rows of trees that are being made. -/
namespace Go.Proofs.Ytcgigfnbjmlhhad
set_option maxRecDepth 20000
set_option maxHeartbeats 4000000
namespace E

section
variable {P : Program} {f n : Nat} {k : List Item} {K Kp : Value → World → Prop} {σ : Env} {w : World}

theorem rn_ret3 {fn : Func} {t0 t1 t2 : Nat} {v0 v1 v2 : Value} (hf : P.funcs[f]? = some fn) (hr : fn.results = #[.tmp t0, .tmp t1, .tmp t2]) (h0 : look σ t0 = some v0) (h1 : look σ t1 = some v1) (h2 : look σ t2 = some v2)
    (hR : K (.tuple #[v0, v1, v2]) w) : Rn P f n (.code .ret :: k) (endR K Kp) σ w := fun a ha hd =>
  runs_ret hf hd (by simp only [results, hr]; simp [ha.has t0 _ h0, ha.has t1 _ h1, ha.has t2 _ h2]) hR
theorem rn_ret5 {fn : Func} {t0 t1 t2 t3 t4 : Nat} {v0 v1 v2 v3 v4 : Value} (hf : P.funcs[f]? = some fn) (hr : fn.results = #[.tmp t0, .tmp t1, .tmp t2, .tmp t3, .tmp t4]) (h0 : look σ t0 = some v0) (h1 : look σ t1 = some v1) (h2 : look σ t2 = some v2)
    (h3 : look σ t3 = some v3) (h4 : look σ t4 = some v4) (hR : K (.tuple #[v0, v1, v2, v3, v4]) w) : Rn P f n (.code .ret :: k) (endR K Kp) σ w := fun a ha hd =>
  runs_ret hf hd (by simp only [results, hr]; simp [ha.has t0 _ h0, ha.has t1 _ h1, ha.has t2 _ h2, ha.has t3 _ h3, ha.has t4 _ h4]) hR
end

section
variable {w : World} {B e k : Nat} {v : Value}

theorem flatten_at {k : Nat} {ccs : List (List Value)} (hk : ∀ c ∈ ccs, c.length = k) {i : Nat} {c : List Value} (h : ccs[i]? = some c) : (ccs.flatten.drop (i * k)).take k = c := by
  have := flat_at (f := fun x : List Value => x) (k := k) hk h
  simpa [List.flatMap_id'] using this
theorem flatten_length {k : Nat} {ccs : List (List Value)} (hk : ∀ c ∈ ccs, c.length = k) : ccs.flatten.length = ccs.length * k := by
  have := flat_length (f := fun x : List Value => x) (k := k) hk
  simpa [List.flatMap_id'] using this

/-- A row that is owned, by its elements. -/
theorem own_rowAt {ccs : List (List Value)} (h : Own w B e k v ccs.length ccs.flatten) (hk : ∀ c ∈ ccs, c.length = k) :
    ∃ a cap, v = .slice a ccs.length cap ∧ RowAt (fun b => v.ownBlock = some b) w k a ccs.length (fun i => ccs.getD i []) := by
  obtain ⟨a, cap, hv⟩ := h.form
  refine ⟨a, cap, hv, fun h0 => ?_⟩
  obtain ⟨g, cap', hv', hr⟩ := h.range (q := 0) (cs := ccs.flatten) (by rw [List.drop_zero, List.take_length]) h0
  rw [hv] at hv'
  injection hv' with e1 e2 e3
  subst e1
  refine ⟨g, 0, rfl, by rw [hv]; rfl, fun i hi j u hu => ?_⟩
  replace hu : (ccs.getD i [])[j]? = some u := hu
  rw [List.getD_eq_getElem?_getD, List.getElem?_eq_getElem hi] at hu
  have hc := hk _ (List.getElem_mem hi)
  have hj : j < k := by
    have := (List.getElem?_eq_some_iff.1 hu).1
    simp only [Option.getD_some] at this
    omega
  have hat := flatten_at hk (List.getElem?_eq_getElem hi)
  simp only [Option.getD_some] at hu
  rw [← hat, List.getElem?_take, if_pos hj, List.getElem?_drop] at hu
  have := hr (i * k + j) u hu
  rwa [← Nat.add_assoc] at this

theorem exprs_of_own {F : Nat → Prop} {ccs : List (List Value)} {l : List ET} (h : Own w B e 4 v ccs.length ccs.flatten) (hl : ccs.length = l.length) (hc : ∀ i (hi : i < l.length), ExprV F w (ccs.getD i []) (l[i]'hi)) : ExprsV (fun b => v.ownBlock = some b ∨ F b) w v l := by
  have hk : ∀ c ∈ ccs, c.length = 4 := fun c hm => by
    obtain ⟨i, hi, rfl⟩ := List.mem_iff_getElem.1 hm
    have := (hc i (by omega)).length
    rwa [List.getD_eq_getElem?_getD, List.getElem?_eq_getElem hi] at this
  obtain ⟨a, cap, hv, hr⟩ := own_rowAt h hk
  rw [hl] at hv hr
  exact ⟨a, cap, _, hv, hr.mono fun b hb => .inl hb, fun i hi => (hc i hi).mono fun b hb => .inr hb⟩
theorem stmts_of_own {F : Nat → Prop} {ccs : List (List Value)} {l : List ST} (h : Own w B e 12 v ccs.length ccs.flatten) (hl : ccs.length = l.length) (hc : ∀ i (hi : i < l.length), StmtV F w (ccs.getD i []) (l[i]'hi)) : StmtsV (fun b => v.ownBlock = some b ∨ F b) w v l := by
  have hk : ∀ c ∈ ccs, c.length = 12 := fun c hm => by
    obtain ⟨i, hi, rfl⟩ := List.mem_iff_getElem.1 hm
    have := (hc i (by omega)).length
    rwa [List.getD_eq_getElem?_getD, List.getElem?_eq_getElem hi] at this
  obtain ⟨a, cap, hv, hr⟩ := own_rowAt h hk
  rw [hl] at hv hr
  exact ⟨a, cap, _, hv, hr.mono fun b hb => .inl hb, fun i hi => (hc i hi).mono fun b hb => .inr hb⟩
end
end E
end Go.Proofs.Ytcgigfnbjmlhhad

/- Trees' sizes. -/
namespace Go.Proofs.Ytcgigfnbjmlhhad
set_option maxRecDepth 20000
set_option maxHeartbeats 4000000
namespace E
theorem In.stays {F : Nat → Prop} {w : World} (h : In F w) : Stays F w [] := fun k hk => ⟨h k hk, by simp⟩
/-! ### Sizes -/
theorem szE_pos (t : ET) : 1 ≤ szE t := by cases t; simp only [szE]; omega
theorem szS_pos (t : ST) : 1 ≤ szS t := by cases t; simp only [szS]; omega
theorem szEs_len : ∀ (l : List ET), l.length ≤ szEs l
  | [] => by simp [szEs]
  | t :: r => by have := szEs_len r; have := szE_pos t; simp only [List.length_cons, szEs]; omega
theorem szSs_len : ∀ (l : List ST), l.length ≤ szSs l
  | [] => by simp [szSs]
  | t :: r => by have := szSs_len r; have := szS_pos t; simp only [List.length_cons, szSs]; omega
theorem szEs_append : ∀ (a b : List ET), szEs (a ++ b) = szEs a + szEs b
  | [], b => by simp [szEs]
  | t :: r, b => by simp only [List.cons_append, szEs, szEs_append r b]; omega
theorem szSs_append : ∀ (a b : List ST), szSs (a ++ b) = szSs a + szSs b
  | [], b => by simp [szSs]
  | t :: r, b => by simp only [List.cons_append, szSs, szSs_append r b]; omega
theorem szEs_succ {l : List ET} {i : Nat} {t : ET} (h : l[i]? = some t) : szEs (l.take (i + 1)) = szEs (l.take i) + szE t := by
  obtain ⟨hlt, e⟩ := List.getElem?_eq_some_iff.1 h
  rw [List.take_succ_eq_append_getElem hlt, szEs_append, e]
  simp [szEs]
theorem szSs_succ {l : List ST} {i : Nat} {t : ST} (h : l[i]? = some t) : szSs (l.take (i + 1)) = szSs (l.take i) + szS t := by
  obtain ⟨hlt, e⟩ := List.getElem?_eq_some_iff.1 h
  rw [List.take_succ_eq_append_getElem hlt, szSs_append, e]
  simp [szSs]
theorem szEs_take (l : List ET) (i : Nat) : szEs (l.take i) ≤ szEs l := by
  have e : szEs l = szEs (l.take i) + szEs (l.drop i) := by rw [← szEs_append, List.take_append_drop]
  omega
theorem szSs_take (l : List ST) (i : Nat) : szSs (l.take i) ≤ szSs l := by
  have e : szSs l = szSs (l.take i) + szSs (l.drop i) := by rw [← szSs_append, List.take_append_drop]
  omega
theorem szEs_ge {l : List ET} {i : Nat} (h : i ≤ l.length) : i ≤ szEs (l.take i) := by
  have := szEs_len (l.take i)
  rw [List.length_take] at this
  omega
theorem szSs_ge {l : List ST} {i : Nat} (h : i ≤ l.length) : i ≤ szSs (l.take i) := by
  have := szSs_len (l.take i)
  rw [List.length_take] at this
  omega
theorem szEs_at {l : List ET} {i : Nat} {t : ET} (h : l[i]? = some t) : szE t ≤ szEs l := by
  have := szEs_succ h
  have := szEs_take l (i + 1)
  omega
theorem szSs_at {l : List ST} {i : Nat} {t : ST} (h : l[i]? = some t) : szS t ≤ szSs l := by
  have := szSs_succ h
  have := szSs_take l (i + 1)
  omega
/-! ### Variables that are owned -/
theorem vars_of_own {w : World} {B e : Nat} {v : Value} {vs : List VarT} (h : Own w B e 2 v vs.length (vs.flatMap vcell)) : VarsV (fun b => B ≤ b ∧ b < w.heap.size) w v vs := by
  rcases h.2 with ⟨hv, h0⟩ | ⟨g, cap, cur, hv, hB, hb, hc, hl, ht⟩
  · have : vs = [] := List.eq_nil_of_length_eq_zero h0
    subst this
    exact ⟨none, 0, hv, by simp, fun h => absurd h (by simp)⟩
  · refine ⟨_, cap, hv, hc, fun h0 => ⟨g, 0, rfl, ⟨hB, hb.lt⟩, fun i hi => ?_⟩⟩
    have hx : vs[i]? = some vs[i] := List.getElem?_eq_getElem hi
    have hf := flat_at (f := vcell) (k := 2) (fun p _ => rfl) hx
    show w.rangeAt g (0 + i * 2) (vcell (vs.getD i (ByteArray.empty, 0)))
    rw [List.getD_eq_getElem?_getD, hx]
    rw [Nat.zero_add]
    refine hb.range ?_
    show (cur.drop (i * 2)).take 2 = vcell vs[i]
    rw [← hf, ← ht, List.drop_take, List.take_take, Nat.min_eq_left (by omega)]
end E
end Go.Proofs.Ytcgigfnbjmlhhad

/- What the proofs know of the program's types. -/
namespace Go.Proofs.Ytcgigfnbjmlhhad
set_option maxRecDepth 20000
set_option maxHeartbeats 4000000
namespace E
open Go.Proofs

def tbl : Tbl := { fld := [(24, [(0, 0), (1, 1)]), (25, [(0, 0), (1, 1)]), (36, [(0, 0), (1, 1), (2, 2), (3, 3)]), (37, [(0, 0), (1, 1), (2, 2), (3, 3)]), (38, [(0, 0), (1, 1), (2, 2), (3, 3)]), (46, [(0, 0), (1, 1), (2, 2), (3, 3)]), (47, [(0, 0), (1, 1), (2, 2), (3, 3)]), (48, [(0, 0), (1, 1), (2, 2), (3, 6), (4, 10), (5, 11)]), (49, [(0, 0), (1, 1), (2, 2), (3, 6), (4, 10), (5, 11)]), (50, [(0, 0), (1, 1)]), (51, [(0, 0), (1, 1)]), (55, [(0, 0)]), (56, [(0, 0)]), (57, [(0, 0), (1, 1)]), (58, [(0, 0), (1, 1)]), (63, [(0, 0), (1, 2), (2, 3)]), (64, [(0, 0), (1, 2), (2, 3)]), (72, [(0, 0), (1, 1), (2, 2), (3, 3), (4, 4)]), (73, [(0, 0), (1, 1), (2, 2), (3, 3), (4, 4)]), (114, [(0, 0), (1, 1), (2, 2), (3, 3), (4, 4), (5, 5), (6, 6), (7, 7), (8, 8), (9, 9), (10, 10)])], sl := [(22, 2), (23, 12), (29, 4), (34, 4), (40, 1), (45, 4)], ar := [(104, (0, 1))], one := [(1, ()), (2, ()), (3, ()), (4, ()), (5, ()), (6, ()), (9, ()), (10, ()), (11, ()), (12, ()), (15, ()), (16, ()), (17, ()), (21, ()), (22, ()), (23, ()), (26, ()), (27, ()), (28, ()), (29, ()), (31, ()), (32, ()), (33, ()), (34, ()), (35, ()), (39, ()), (40, ()), (42, ()), (43, ()), (44, ()), (45, ()), (52, ()), (53, ()), (54, ()), (59, ()), (60, ()), (61, ()), (62, ()), (65, ()), (66, ()), (67, ()), (68, ()), (69, ()), (70, ()), (71, ()), (74, ()), (75, ()), (76, ()), (77, ()), (78, ()), (79, ()), (80, ()), (81, ()), (82, ()), (83, ()), (84, ()), (85, ()), (86, ()), (87, ()), (88, ()), (89, ()), (90, ()), (92, ()), (93, ()), (94, ()), (95, ()), (96, ()), (97, ()), (98, ()), (99, ()), (100, ()), (101, ()), (107, ()), (108, ()), (109, ()), (110, ()), (111, ()), (112, ()), (113, ())], ag := [(24, 2), (25, 2), (36, 4), (37, 4), (38, 4), (46, 4), (47, 4), (48, 12), (49, 12), (50, 2), (51, 2), (55, 1), (56, 1), (57, 3), (58, 3), (63, 4), (64, 4), (72, 5), (73, 5), (104, 0), (114, 11)] }
theorem hT : tbl.check Try.prog = true := by decide +kernel
theorem hMix : Try.prog.follows .mixedOrders = true := by decide +kernel
end E
end Go.Proofs.Ytcgigfnbjmlhhad
