/- Rows of int64 as values: how they are held against one another, and one of them out of a row. -/
import Derived.Test.YthidfgolcibcoacDoorMem
import Derived.ChangeKeysEq
namespace Go.Proofs.YthidfgolcibcoacDoor
set_option maxRecDepth 20000
set_option maxHeartbeats 4000000
namespace E

def ints (l : List Int) : List Value := l.map fun x => .int .i64 x
theorem ints_length (l : List Int) : (ints l).length = l.length := by simp [ints]
theorem ints_one (l : List Int) : ∀ u ∈ ints l, u.oneCell' = true := by
  intro u hu
  simp only [ints, List.mem_map] at hu
  obtain ⟨x, _, rfl⟩ := hu
  rfl

theorem list8 {l : List Int} (h : l.length = 8) : ∃ a b c d e f g i, l = [a, b, c, d, e, f, g, i] := by
  match l, h with
  | [a, b, c, d, e, f, g, i], _ => exact ⟨a, b, c, d, e, f, g, i, rfl⟩


def arrInt (P : Program) (t len : Nat) : Bool :=
  match P.underlying t with
  | some (.array l e) => l == len && (match P.underlying e with | some (.int _) => true | _ => false) && sizeOk P e 1 && !(P.eqGuardType P.depth t)
  | _ => false

theorem arrInt_spec {P : Program} {t len : Nat} (h : arrInt P t len = true) :
    ∃ e k i, P.underlying t = some (.array len e) ∧ P.underlying e = some (.int k) ∧ P.info? e = some i ∧ i.size = 1 ∧ P.eqGuardType P.depth t = false := by
  unfold arrInt at h
  split at h
  · rename_i l e hu
    simp only [Bool.and_eq_true, beq_iff_eq, Bool.not_eq_true'] at h
    obtain ⟨⟨⟨rfl, h1⟩, h2⟩, h3⟩ := h
    split at h1
    · rename_i k hk
      unfold sizeOk at h2
      split at h2
      · rename_i i hi
        exact ⟨e, k, i, hu, hk, hi, by simpa using h2, h3⟩
      · cases h2
    · cases h1
  · cases h

theorem part_ints {P : Program} {e : TypeId} {k : IntKind} {l : List Int} {j : Nat} {x : Int} (hu : P.underlying e = some (.int k)) (hx : l[j]? = some x) (w : World) : (part e (ints l).toArray j).run P w = .ok (.int .i64 x) w := by
  have hg : (ints l).toArray[j]? = some (.int .i64 x) := by simp [ints, hx]
  simp [part, isAgg, run_underlying hu, hg]

theorem run_eqItems_ints {P : Program} {e : TypeId} {k : IntKind} (hu : P.underlying e = some (.int k)) (d : Nat) (xs ys : List Int) (w : World) : ∀ (is : List Nat), (∀ i ∈ is, i < xs.length ∧ i < ys.length) →
    (Op.eqItems (d + 1) e 1 (ints xs).toArray (ints ys).toArray is).run P w = .ok (decide (∀ i ∈ is, xs[i]? = ys[i]?)) w
  | [], _ => by simp [Op.eqItems]
  | i :: is, h => by
    obtain ⟨h1, h2⟩ := h i (by simp)
    have hx : xs[i]? = some xs[i] := List.getElem?_eq_getElem h1
    have hy : ys[i]? = some ys[i] := List.getElem?_eq_getElem h2
    have ih := run_eqItems_ints hu d xs ys w is fun j hj => h j (List.mem_cons_of_mem _ hj)
    simp only [Op.eqItems, Nat.mul_one, Sem.run_bind, part_ints hu hx, part_ints hu hy, Result.andThen_ok, run_equalIn_int w d e .i64 k _ _ hu]
    by_cases hxy : xs[i] = ys[i]
    · have hb : (xs[i] == ys[i]) = true := by simpa using hxy
      have hp : xs[i]? = ys[i]? := by rw [hx, hy, hxy]
      simp only [hb, Bool.not_true, Bool.false_eq_true, if_false, ih, List.forall_mem_cons, hp, true_and]
    · have hb : (xs[i] == ys[i]) = false := by simpa using hxy
      have hn : ¬ (xs[i]? = ys[i]?) := by rw [hx, hy]; simpa using hxy
      simp only [hb, Bool.not_false, if_true, Sem.run_pure, List.forall_mem_cons, hn, false_and, decide_false]

theorem run_equal_ints {P : Program} {t len : Nat} (h : arrInt P t len = true) {xs ys : List Int} (hx : xs.length = len) (hy : ys.length = len) (w : World) : (Op.equal t (.agg (ints xs).toArray) (.agg (ints ys).toArray)).run P w = .ok (decide (xs = ys)) w := by
  obtain ⟨e, k, i, hu, hk, hi, hs, _⟩ := arrInt_spec h
  have hc : P.cellsOf e = 1 := by simp [Program.cellsOf, hi, hs]
  have he : (Op.equal t (.agg (ints xs).toArray) (.agg (ints ys).toArray)).run P w = (Op.eqItems (9998 + 1) e (P.cellsOf e) (ints xs).toArray (ints ys).toArray (List.range len)).run P w :=
    run_equalIn_array w 9999 (ints xs).toArray (ints ys).toArray hu hi
  rw [he, hc, run_eqItems_ints hk 9998 xs ys w (List.range len) (fun j hj => by have := List.mem_range.1 hj; omega)]
  congr 1
  refine decide_eq_decide.2 ⟨fun hall => List.ext_getElem? fun j => ?_, fun e _ _ => by rw [e]⟩
  by_cases hj : j < len
  · exact hall j (List.mem_range.2 hj)
  · rw [List.getElem?_eq_none (by omega), List.getElem?_eq_none (by omega)]

section
variable {P : Program} {T : Tbl} {n : Nat} {σ : Env} {o : Oper}
theorem val_eqInts {t t' len : Nat} {x y : Operand} (xs ys : List Int) (h : arrInt P t len = true) (ho : o.op = .binOp .eql t x y t') (hx : ev σ x = some (.agg (ints xs).toArray)) (hy : ev σ y = some (.agg (ints ys).toArray))
    (lx : xs.length = len) (ly : ys.length = len) (r : Bool) (hr : decide (xs = ys) = r) (w : World) : Val P n σ o w (.bool r) := by
  intro a ha
  subst hr
  obtain ⟨_, _, _, _, _, _, _, hq⟩ := arrInt_spec h
  simp [execOp, ho, ha.eval hx, ha.eval hy, eqGuard, hq, binOp, run_equal_ints h lx ly]
theorem val_neInts {t t' len : Nat} {x y : Operand} (xs ys : List Int) (h : arrInt P t len = true) (ho : o.op = .binOp .neq t x y t') (hx : ev σ x = some (.agg (ints xs).toArray)) (hy : ev σ y = some (.agg (ints ys).toArray))
    (lx : xs.length = len) (ly : ys.length = len) (r : Bool) (hr : (!decide (xs = ys)) = r) (w : World) : Val P n σ o w (.bool r) := by
  intro a ha
  subst hr
  obtain ⟨_, _, _, _, _, _, _, hq⟩ := arrInt_spec h
  simp [execOp, ho, ha.eval hx, ha.eval hy, eqGuard, hq, binOp, run_equal_ints h lx ly]

/-- One word out of a row that is a value. -/
theorem val_at {t len : Nat} {x ix : Operand} {kk : IntKind} (xs : List Int) (j : Nat) {i c : Int} (h : arrInt P t len = true) (ho : o.op = .index t x ix) (hx : ev σ x = some (.agg (ints xs).toArray)) (hi : ev σ ix = some (.int kk i))
    (hij : i = (j : Int)) (hj : j < len) (hc : xs[j]? = some c) (w : World) : Val P n σ o w (.int .i64 c) := by
  intro a ha
  subst hij
  obtain ⟨e, k, inf, hu, hk, hinf, hs, _⟩ := arrInt_spec h
  have hsz : (sizeOf e).run P w = .ok 1 w := by simp [sizeOf, typeInfo, hinf, hs]
  simp [execOp, ho, ha.eval hx, ha.eval hi, Instr.index, asIntOf, run_underlying hu, hj, hsz, part_ints hk hc]
end
end E
end Go.Proofs.YthidfgolcibcoacDoor
