/- More laws of single operations: cutting a slice or an array, copy, a field of a value. -/
import Derived.Test.YthidfgolcibcoacDoorInts
import Derived.Laws.CopyRow
namespace Go.Proofs.YthidfgolcibcoacDoor
set_option maxRecDepth 20000
set_option maxHeartbeats 4000000
namespace E

section
variable {P : Program} {T : Tbl} {n : Nat} {σ : Env} {o : Oper} {w : World} {v : Value}

/-- s[:h]. -/
theorem val_sliceTo {t : TypeId} {x hi : Operand} {a : Option Addr} {len cap sz : Nat} {k1 : IntKind} {i1 : Int} (h : Nat) (hT : T.check P = true) (ho : o.op = .slice t x none (some hi) none) (hx : ev σ x = some (.slice a len cap))
    (h1 : ev σ hi = some (.int k1 i1)) (ht : find T.sl t = some sz) (e1 : i1 = (h : Int)) (hm : h ≤ cap) (w : World) : Val P n σ o w (.slice a h cap) := by
  intro ac ha
  subst e1
  have hs := Tbl.sl_ok hT ht
  unfold slOk at hs
  split at hs
  · rename_i e hu
    simp [execOp, ho, ha.eval hx, ha.eval h1, Instr.sliceAt, Instr.slice, Instr.sliceBounds, Instr.sliceBound, asIntOf, run_underlying hu, sizeOk_run hs, hm]
    cases a <;> simp [Addr.add]
  · cases hs

/-- x[l:], of an array. -/
theorem val_sliceArrFrom {t : TypeId} {x lo : Operand} {b q len sz : Nat} {k1 : IntKind} {i1 : Int} (l : Nat) (hT : T.check P = true) (ho : o.op = .slice t x (some lo) none none) (hx : ev σ x = some (.pointer (some ⟨b, q, none⟩)))
    (h1 : ev σ lo = some (.int k1 i1)) (ht : find T.ar t = some (len, sz)) (e1 : i1 = (l : Int)) (hm : l < len) (w : World) : Val P n σ o w (.slice (some ⟨b, q + l * sz, none⟩) (len - l) (len - l)) := by
  intro a ha
  subst e1
  have hs := Tbl.ar_ok hT ht
  unfold arOk at hs
  split at hs
  · rename_i l' e hu
    simp only [Bool.and_eq_true, beq_iff_eq] at hs
    obtain ⟨rfl, hs⟩ := hs
    have hle : l ≤ l' := Nat.le_of_lt hm
    have hne : ¬ l' = l := by omega
    simp [execOp, ho, ha.eval hx, ha.eval h1, Instr.sliceAt, Instr.sliceBounds, Instr.sliceBound, asIntOf, Instr.sureAddr, run_underlying hu, sizeOk_run hs, hle, hne, Addr.add_mid]
  · cases hs

def copyOk (P : Program) (t : Nat) : Bool :=
  match P.underlying t with
  | some (.slice e) => sizeOk P e 1
  | _ => false

theorem opTo_copy {t t' : TypeId} {x y : Operand} {b q dl dc b' q' sl sc : Nat} {L : List Value} {e : TypeId} {K : Value → World → Prop} (cs : List Value)
    (ho : o.op = .call { callee := .builtin .copy, args := #[x, y], argTypes := #[t, t'] }) (hx : ev σ x = some (.slice (some ⟨b, q, none⟩) dl dc)) (hy : ev σ y = some (.slice (some ⟨b', q', none⟩) sl sc))
    (hP : copyOk P t = true) (hb : Blk w b L e) (hn : cs.length = Nat.min sl dl) (hsrc : w.rangeAt b' q' cs) (hl : q + cs.length ≤ L.length) (h1 : ∀ u ∈ cs, u.oneCell' = true)
    (hK : ∀ r, K r (w.setRow b (splice L q cs).toArray)) : OpTo P n σ o w K := by
  unfold copyOk at hP
  split at hP
  · rename_i el hu
    refine opTo_run (v := goInt cs.length) (w' := w.setRow b (splice L q cs).toArray) (fun a ha => ?_) (hK _)
    have hr := run_copy_row P w t t' o.type el b q dl dc ⟨b', q', none⟩ sl sc L.toArray e cs hu (sizeOk_info hP) hb hn (fun j u hj => by rw [Addr.add_mid]; exact hsrc j u hj) (by simpa using hl) h1
    have hr' : (Builtin.copy_ #[t, t'] o.type #[.slice (some ⟨b, q, none⟩) dl dc, .slice (some ⟨b', q', none⟩) sl sc]).run P w = .ok (goInt cs.length) (w.setRow b (splice L q cs).toArray) := by
      rw [hr]; simp [splice]
    simp [execOp, ho, resolve, invoke, builtin, ha.eval hx, ha.eval hy, hr']
  · cases hP

def fieldOne (P : Program) (s f off : Nat) : Bool :=
  match P.underlying s with
  | some (.struct fs) => match fs[f]? with
    | some d => d.offset == off && oneOk P d.type
    | none => false
  | _ => false
def fieldAgg (P : Program) (s f off m : Nat) : Bool :=
  match P.underlying s with
  | some (.struct fs) => match fs[f]? with
    | some d => d.offset == off && agOk P d.type m
    | none => false
  | _ => false

theorem oneOk_isAgg {t : Nat} (hs : oneOk P t = true) (w : World) : (isAgg t).run P w = .ok false w := by
  unfold oneOk at hs
  cases hu : P.underlying t with
  | none => simp [hu] at hs
  | some d =>
    unfold isAgg
    rw [Sem.run_bind, run_underlying hu w]
    cases d <;> simp_all
theorem agOk_isAgg {t m : Nat} (hs : agOk P t m = true) (w : World) : (isAgg t).run P w = .ok true w ∧ sizeOk P t m = true := by
  unfold agOk at hs
  cases hu : P.underlying t with
  | none => simp [hu] at hs
  | some d =>
    unfold isAgg
    rw [Sem.run_bind, run_underlying hu w]
    cases d <;> simp_all

theorem val_field1 {s f : Nat} {x : Operand} (off : Nat) (cs : List Value) (ho : o.op = .field s x f) (hx : ev σ x = some (.agg cs.toArray)) (hP : fieldOne P s f off = true) (hv : cs[off]? = some v) (w : World) : Val P n σ o w v := by
  intro a ha
  unfold fieldOne at hP
  split at hP
  · rename_i fs hu
    split at hP
    · rename_i d hd
      simp only [Bool.and_eq_true, beq_iff_eq] at hP
      obtain ⟨rfl, hP⟩ := hP
      simp [execOp, ho, ha.eval hx, Instr.field, run_underlying hu, hd, asAgg, part, oneOk_isAgg hP, hv]
    · cases hP
  · cases hP
theorem val_fieldAgg {s f m : Nat} {x : Operand} (off : Nat) (cs ds : List Value) (ho : o.op = .field s x f) (hx : ev σ x = some (.agg cs.toArray)) (hP : fieldAgg P s f off m = true) (hv : (cs.drop off).take m = ds) (w : World) : Val P n σ o w (.agg ds.toArray) := by
  intro a ha
  unfold fieldAgg at hP
  split at hP
  · rename_i fs hu
    split at hP
    · rename_i d hd
      simp only [Bool.and_eq_true, beq_iff_eq] at hP
      obtain ⟨rfl, hP⟩ := hP
      have h1 := agOk_isAgg hP w
      simp [execOp, ho, ha.eval hx, Instr.field, run_underlying hu, hd, asAgg, part, h1.1, sizeOk_run h1.2, hv]
    · cases hP
  · cases hP
end

def isBool (P : Program) (t : Nat) : Bool :=
  match P.underlying t with
  | some .bool => true
  | _ => false

theorem val_neBool {P : Program} {n : Nat} {σ : Env} {o : Oper} {t t' : Nat} {x y : Operand} (a b r : Bool) (h : isBool P t = true) (ho : o.op = .binOp .neq t x y t') (hx : ev σ x = some (.bool a)) (hy : ev σ y = some (.bool b)) (hr : (!(a == b)) = r) (w : World) : Val P n σ o w (.bool r) := by
  intro ac ha
  subst hr
  unfold isBool at h
  split at h
  · rename_i hu
    have he : (Op.equal t (.bool a) (.bool b)).run P w = .ok (a == b) w := run_equalIn_bool' w 9999 t a b hu
    simp [execOp, ho, ha.eval hx, ha.eval hy, eqGuard, binOp, he]
  · cases h


/-- A pointer that is not nil, held against nil. -/
def isPtr (P : Program) (t : Nat) : Bool :=
  match P.underlying t with
  | some (.pointer _) => true
  | _ => false
theorem val_neNil {P : Program} {n : Nat} {σ : Env} {o : Oper} {t t' : Nat} {x : Operand} {ad : Addr} (h : isPtr P t = true) (ho : o.op = .binOp .neq t x (.const (.pointer none)) t') (hx : ev σ x = some (.pointer (some ad))) (w : World) : Val P n σ o w (.bool true) := by
  intro a ha
  unfold isPtr at h
  split at h
  · rename_i e hu
    have he : ∀ d, (Op.equalIn (d + 1) t (.pointer (some ad)) (.pointer none)).run P w = .ok false w := fun d => by
      simp [Op.equalIn, run_underlying hu]
    have he' : (Op.equal t (.pointer (some ad)) (.pointer none)).run P w = .ok false w := he 9999
    have hc : a.eval (.const (.pointer none)) = .pointer none := rfl
    simp [execOp, ho, ha.eval hx, hc, eqGuard, binOp, he']
  · cases h

/-- Blocks of two types are two. -/
theorem Blk.ne {w : World} {a b : Nat} {L L' : List Value} {e e' : TypeId} (h : Blk w a L e) (h' : Blk w b L' e') (hne : e ≠ e') : a ≠ b := fun hab => by
  subst hab
  unfold Blk at h h'
  rw [h] at h'
  simp at h'
  exact hne h'.2
end E
end Go.Proofs.YthidfgolcibcoacDoor
