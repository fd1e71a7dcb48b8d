/- Laws of single operations on strings, and of structs of a string and a number. -/
import Derived.Test.YthidfgolcibcoacDoorOps2
import Derived.Laws.StructEq
namespace Go.Proofs.YthidfgolcibcoacDoor
set_option maxRecDepth 20000
set_option maxHeartbeats 4000000
namespace E

section
variable {P : Program} {n : Nat} {σ : Env} {o : Oper}

def isStr (P : Program) (t : Nat) : Bool :=
  match P.underlying t with
  | some .string => true
  | _ => false
theorem isStr_spec {t : Nat} (h : isStr P t = true) : P.underlying t = some .string := by
  unfold isStr at h
  split at h
  · rename_i hu; exact hu
  · cases h

/-- s[i]. -/
theorem val_strAt {t : Nat} {x ix : Operand} {kk : IntKind} (s : ByteArray) (j : Nat) (c : UInt8) {i : Int} (h : isStr P t = true) (ho : o.op = .index t x ix) (hx : ev σ x = some (.string s)) (hi : ev σ ix = some (.int kk i))
    (hij : i = (j : Int)) (hc : s[j]? = some c) (w : World) : Val P n σ o w (.int .u8 (c.toNat : Nat)) := by
  intro a ha
  subst hij
  simp [execOp, ho, ha.eval hx, ha.eval hi, Instr.index, asIntOf, run_underlying (isStr_spec h), hc]

/-- len(s). -/
theorem val_strLen {t : Nat} {x : Operand} (s : ByteArray) (h : isStr P t = true) (ho : o.op = .call { callee := .builtin .len, args := #[x], argTypes := #[t] }) (hx : ev σ x = some (.string s)) (w : World) : Val P n σ o w (.int .i64 (s.size : Nat)) := by
  intro a ha
  simp [execOp, ho, resolve, invoke, builtin, Builtin.len_, run_underlying (isStr_spec h), ha.eval hx, goInt]

theorem val_eqStr {t t' : Nat} {x y : Operand} (a b : ByteArray) (r : Bool) (ho : o.op = .binOp .eql t x y t') (hx : ev σ x = some (.string a)) (hy : ev σ y = some (.string b)) (hr : (a.toList == b.toList) = r) (w : World) : Val P n σ o w (.bool r) := by
  intro ac ha
  subst hr
  simp [execOp, ho, ha.eval hx, ha.eval hy, eqGuard, binOp, Op.stringOp]
theorem val_neStr {t t' : Nat} {x y : Operand} (a b : ByteArray) (r : Bool) (ho : o.op = .binOp .neq t x y t') (hx : ev σ x = some (.string a)) (hy : ev σ y = some (.string b)) (hr : (!(a.toList == b.toList)) = r) (w : World) : Val P n σ o w (.bool r) := by
  intro ac ha
  subst hr
  simp [execOp, ho, ha.eval hx, ha.eval hy, eqGuard, binOp, Op.stringOp]

/-- A struct of a string and a number. -/
def isPair (P : Program) (t : Nat) : Bool :=
  match P.underlying t with
  | some (.struct fs) => match fs.toList with
    | [f, g] => f.offset == 0 && g.offset == 1 && (f.name != "_") && (g.name != "_") && isStr P f.type && (match P.underlying g.type with | some (.int _) => true | _ => false) && !(P.stoodInHeld t) && !(P.eqGuardType P.depth t)
    | _ => false
  | _ => false

theorem run_equal_pair {t : Nat} (h : isPair P t = true) (a b : ByteArray) (x y : Int) (w : World) :
    (Op.equalIn 10000 t (.agg #[.string a, .int .i64 x]) (.agg #[.string b, .int .i64 y])).run P w = .ok (a.toList == b.toList && x == y) w ∧ P.eqGuardType P.depth t = false := by
  unfold isPair at h
  split at h
  · rename_i fs hu
    split at h
    · rename_i f g hfs
      simp only [Bool.and_eq_true, beq_iff_eq, bne_iff_ne, Bool.not_eq_true'] at h
      obtain ⟨⟨⟨⟨⟨⟨⟨h1, h2⟩, h3⟩, h4⟩, h5⟩, h6⟩, h7⟩, h8⟩ := h
      refine ⟨?_, h8⟩
      have hf : P.fieldsOf t = fs := by simp [Program.fieldsOf, hu]
      have hs := isStr_spec h5
      split at h6
      · rename_i k hk
        rw [run_equalIn_struct w 9999 t _ _ (by rw [hf]; exact hu) h7, hf, hfs]
        have e1 := run_equalIn_string (P := P) w 9998 f.type a b hs
        have e2 := run_equalIn_int (P := P) w 9998 g.type .i64 k x y hk
        have p1 : (part f.type #[.string a, .int .i64 x] 0).run P w = .ok (.string a) w := by simp [part, isAgg, run_underlying hs]
        have p2 : (part f.type #[.string b, .int .i64 y] 0).run P w = .ok (.string b) w := by simp [part, isAgg, run_underlying hs]
        have p3 : (part g.type #[.string a, .int .i64 x] 1).run P w = .ok (.int .i64 x) w := by simp [part, isAgg, run_underlying hk]
        have p4 : (part g.type #[.string b, .int .i64 y] 1).run P w = .ok (.int .i64 y) w := by simp [part, isAgg, run_underlying hk]
        simp only [Op.eqFields, h1, h2, h3, h4, ne_eq, not_false_eq_true, if_true, Sem.run_bind, p1, p2, Result.andThen_ok, e1]
        generalize (a.toList == b.toList) = p at *
        generalize (x == y) = q at *
        have e2' : (Op.equalIn 9999 g.type (.int .i64 x) (.int .i64 y)).run P w = .ok q w := e2
        cases p <;> cases q <;> simp [p3, p4, e2']
      · cases h6
    · cases h
  · cases h
theorem val_nePair {t t' : Nat} {x y : Operand} (a b : ByteArray) (k l : Int) (r : Bool) (h : isPair P t = true) (ho : o.op = .binOp .neq t x y t') (hx : ev σ x = some (.agg #[.string a, .int .i64 k])) (hy : ev σ y = some (.agg #[.string b, .int .i64 l]))
    (hr : (!(a.toList == b.toList && k == l)) = r) (w : World) : Val P n σ o w (.bool r) := by
  intro ac ha
  subst hr
  obtain ⟨h1, h2⟩ := run_equal_pair h a b k l w
  simp only [execOp, ho, ha.eval hx, ha.eval hy, Sem.run_bind, run_eqGuard_agg w .neq t _ _ _ _ h2, Result.andThen_ok, run_neq_struct, h1]
  simp
theorem val_eqPair {t t' : Nat} {x y : Operand} (a b : ByteArray) (k l : Int) (r : Bool) (h : isPair P t = true) (ho : o.op = .binOp .eql t x y t') (hx : ev σ x = some (.agg #[.string a, .int .i64 k])) (hy : ev σ y = some (.agg #[.string b, .int .i64 l]))
    (hr : (a.toList == b.toList && k == l) = r) (w : World) : Val P n σ o w (.bool r) := by
  intro ac ha
  subst hr
  obtain ⟨h1, h2⟩ := run_equal_pair h a b k l w
  simp only [execOp, ho, ha.eval hx, ha.eval hy, Sem.run_bind, run_eqGuard_agg w .eql t _ _ _ _ h2, Result.andThen_ok, run_eql_struct, h1]
  simp
end
end E
end Go.Proofs.YthidfgolcibcoacDoor
