/- What the proofs of package token know of the program; texts and tokens as cells; contracts of the looks at one byte, and of run. -/
import Derived.Test.YthidfgolcibcoacDoorProg
import Derived.Test.YthidfgolcibcoacDoorStepB
import Derived.Test.YthidfgolcibcoacDoorStrB
import Derived.Test.YthidfgolcibcoacDoorTokS
import Derived.Laws.Strings
namespace Go.Proofs.YthidfgolcibcoacDoor
set_option maxRecDepth 20000
set_option maxHeartbeats 4000000
namespace E
open Go.Proofs

def tbl : Tbl := { fld := [(24, [(0, 0), (1, 1)]), (25, [(0, 0), (1, 1)]), (31, [(0, 0), (1, 1), (2, 2), (3, 3)]), (32, [(0, 0), (1, 1), (2, 2), (3, 3)]), (33, [(0, 0), (1, 1), (2, 2), (3, 3)]), (67, [(0, 0), (1, 1), (2, 2)]), (68, [(0, 0), (1, 1), (2, 2)]), (78, [(0, 0)]), (79, [(0, 0)]), (95, [(0, 0), (1, 1), (2, 2), (3, 3), (4, 4), (5, 5), (6, 6), (7, 7), (8, 8), (9, 9), (10, 10)])], sl := [(23, 4), (28, 4), (62, 1)], ar := [(59, (24, 1)), (72, (20, 1)), (74, (65, 1)), (81, (32, 1)), (82, (64, 1)), (86, (0, 1))], one := [(1, ()), (2, ()), (3, ()), (4, ()), (5, ()), (6, ()), (9, ()), (10, ()), (11, ()), (12, ()), (15, ()), (16, ()), (17, ()), (21, ()), (22, ()), (23, ()), (27, ()), (28, ()), (30, ()), (34, ()), (35, ()), (37, ()), (38, ()), (40, ()), (41, ()), (42, ()), (46, ()), (47, ()), (48, ()), (49, ()), (50, ()), (51, ()), (53, ()), (54, ()), (55, ()), (56, ()), (57, ()), (58, ()), (60, ()), (61, ()), (62, ()), (64, ()), (65, ()), (66, ()), (69, ()), (70, ()), (71, ()), (73, ()), (75, ()), (76, ()), (77, ()), (80, ()), (83, ()), (89, ()), (90, ()), (91, ()), (92, ()), (93, ()), (94, ())], ag := [(24, 2), (25, 2), (31, 4), (32, 4), (33, 4), (59, 24), (67, 3), (68, 3), (72, 20), (74, 65), (78, 1), (79, 1), (81, 32), (82, 64), (86, 0), (95, 11)] }
theorem hT : tbl.check Tryd.prog = true := by decide +kernel
theorem hMix : Tryd.prog.follows .mixedOrders = true := by decide +kernel

/-! ### Texts -/
def str (l : List UInt8) : ByteArray := ⟨l.toArray⟩
theorem str_list (l : List UInt8) : (str l).data.toList = l := by simp [str]
theorem str_data (s : ByteArray) : str s.data.toList = s := by
  cases s
  simp [str]
theorem str_size (l : List UInt8) : (str l).size = l.length := by rw [← size_toList, str_list]
theorem str_of {s : ByteArray} {l : List UInt8} (h : s.data.toList = l) : s = str l := by rw [← h, str_data]
theorem str_get {l : List UInt8} {j : Nat} {c : UInt8} (h : l[j]? = some c) : (str l)[j]? = some c := by
  have hj := (List.getElem?_eq_some_iff.1 h).1
  have hs : j < (str l).size := by rw [str_size]; exact hj
  rw [getElem?_pos (str l) j hs]
  have e := (List.getElem?_eq_some_iff.1 h).2
  rw [← e]
  rfl
theorem str_cut (l : List UInt8) (a b : Nat) : (str l).extract a b = str ((l.drop a).take (b - a)) := str_of (by rw [toList_extract, str_list])
theorem str_from (l : List UInt8) (a : Nat) : (str l).extract a (str l).size = str (l.drop a) := by
  rw [str_cut, str_size]
  congr 1
  rw [List.take_of_length_le (by rw [List.length_drop]; exact Nat.le_refl _)]
theorem str_to (l : List UInt8) (b : Nat) : (str l).extract 0 b = str (l.take b) := by
  rw [str_cut]
  rfl
theorem str_add (a b : List UInt8) : str a ++ str b = str (a ++ b) := str_of (by rw [toList_add, str_list, str_list])
theorem str_toList (l : List UInt8) : (str l).toList = l := by
  simp [str]

section
variable {P : Program} {n : Nat} {σ : Env} {o : Oper}
theorem val_len {t : Nat} {x : Operand} (l : List UInt8) (h : isStr P t = true) (ho : o.op = .call { callee := .builtin .len, args := #[x], argTypes := #[t] }) (hx : ev σ x = some (.string (str l))) (w : World) : Val P n σ o w (.int .i64 (l.length : Nat)) := by
  have := val_strLen (n := n) (str l) h ho hx w
  rwa [str_size] at this
theorem val_byte {t : Nat} {x ix : Operand} {kk : IntKind} (l : List UInt8) (j : Nat) (c : UInt8) {i : Int} (h : isStr P t = true) (ho : o.op = .index t x ix) (hx : ev σ x = some (.string (str l))) (hi : ev σ ix = some (.int kk i))
    (hij : i = (j : Int)) (hc : l[j]? = some c) (w : World) : Val P n σ o w (.int .u8 (c.toNat : Nat)) := val_strAt (str l) j c h ho hx hi hij (str_get hc) w
theorem val_cut {t : Nat} {x lo hi : Operand} {k1 k2 : IntKind} {i1 i2 : Int} (l : List UInt8) (a b : Nat) (ht : isStr P t = true) (ho : o.op = .slice t x (some lo) (some hi) none) (hx : ev σ x = some (.string (str l)))
    (h1 : ev σ lo = some (.int k1 i1)) (h2 : ev σ hi = some (.int k2 i2)) (e1 : i1 = (a : Int)) (e2 : i2 = (b : Int)) (hl : a ≤ b) (hh : b ≤ l.length) (w : World) : Val P n σ o w (.string (str ((l.drop a).take (b - a)))) := by
  have := val_strCut (n := n) (str l) a b ht ho hx h1 h2 e1 e2 hl (by rw [str_size]; exact hh) w
  rwa [str_cut] at this
theorem val_from {t : Nat} {x lo : Operand} {k1 : IntKind} {i1 : Int} (l : List UInt8) (a : Nat) (ht : isStr P t = true) (ho : o.op = .slice t x (some lo) none none) (hx : ev σ x = some (.string (str l)))
    (h1 : ev σ lo = some (.int k1 i1)) (e1 : i1 = (a : Int)) (hl : a ≤ l.length) (w : World) : Val P n σ o w (.string (str (l.drop a))) := by
  have := val_strFrom (n := n) (str l) a ht ho hx h1 e1 (by rw [str_size]; exact hl) w
  rwa [str_from] at this
theorem val_to {t : Nat} {x hi : Operand} {k2 : IntKind} {i2 : Int} (l : List UInt8) (b : Nat) (ht : isStr P t = true) (ho : o.op = .slice t x none (some hi) none) (hx : ev σ x = some (.string (str l)))
    (h2 : ev σ hi = some (.int k2 i2)) (e2 : i2 = (b : Int)) (hh : b ≤ l.length) (w : World) : Val P n σ o w (.string (str (l.take b))) := by
  have := val_strTo (n := n) (str l) b ht ho hx h2 e2 (by rw [str_size]; exact hh) w
  rwa [str_to] at this
theorem val_add {t t' : Nat} {x y : Operand} (a b : List UInt8) (ho : o.op = .binOp .add t x y t') (hx : ev σ x = some (.string (str a))) (hy : ev σ y = some (.string (str b))) (hs : a.length + b.length ≤ 9223372036854775807) (w : World) : Val P n σ o w (.string (str (a ++ b))) := by
  have := val_strAdd (P := P) (n := n) (str a) (str b) ho hx hy (by rw [str_size, str_size]; exact hs) w
  rwa [str_add] at this
theorem val_neS {t t' : Nat} {x y : Operand} (a b : List UInt8) (r : Bool) (ho : o.op = .binOp .neq t x y t') (hx : ev σ x = some (.string (str a))) (hy : ev σ y = some (.string (str b))) (hr : (!(a == b)) = r) (w : World) : Val P n σ o w (.bool r) :=
  val_neStr (str a) (str b) r ho hx hy (by rw [str_toList, str_toList]; exact hr) w

variable {f : Nat} {k : List Item} {R : Value → World → Prop} {w : World}
theorem rn_retTC {fn : Func} {t0 t1 ty : Nat} {ad : Addr} {x y : Value} (hf : P.funcs[f]? = some fn) (hr : fn.results = #[.tmp t0, .cell t1 ty]) (h0 : look σ t0 = some x) (h1 : look σ t1 = some (.pointer (some ad))) (hv : (loadVar ty ad).run P w = .ok y w)
    (hR : R (.tuple #[x, y]) w) : Rn P f n (.code .ret :: k) R σ w := fun a ha =>
  runs_ret hf ha.defers (by simp only [results, hr]; simp [ha.has t0 _ h0, ha.has t1 _ h1, asAddr, hv]) hR
end

/-! ### One byte -/
theorem beqU (c d : UInt8) : (c == d) = decide (c.toNat = d.toNat) := by
  rw [Bool.eq_iff_iff]
  simp [← UInt8.toNat_inj]
theorem blank_n (c : UInt8) : blankB c = (decide (c.toNat = 32) || decide (c.toNat = 9) || decide (c.toNat = 10) || decide (c.toNat = 13)) := by
  unfold blankB
  simp only [beqU]
  rfl
theorem paren_n (c : UInt8) : parenB c = (decide (c.toNat = 40) || decide (c.toNat = 41)) := by
  unfold parenB
  simp only [beqU]
  rfl
theorem dash_n (c : UInt8) : (c == 45) = decide (c.toNat = 45) := beqU c 45

theorem isBlank_ret (c : UInt8) (w : World) : Ret Tryd.prog 8 [.int .u8 (c.toNat : Nat)] w fun r w' => r = .bool (blankB c) ∧ w' = w := by
  refine ret_of 17 Tryd.func8 rfl rfl (by simp) ?_
  by_cases h1 : c.toNat = 32
  · (repeat (first | refine pl_pure hT rfl rfl rfl ?_ | refine pl_nil ?_ | refine rn_seq ?_ | refine rn_plain ?_ | refine rn_block ?_ | refine rn_inBlock ?_ | refine rn_skip ?_ | refine rn_true rfl ?_ | refine rn_false rfl ?_ | refine rn_exit rfl ?_ | refine pl_not rfl rfl ?_ | refine pl_val _ rfl rfl (val_load1 hT rfl rfl rfl (Blk.cell (by assumption) (by rfl))) ?_ | refine pl_yes rfl rfl rfl rfl rfl (by first | (simp only [cmpP]; omega) | (simp [cmpP]; done) | (simp [cmpP]; omega)) ?_ | refine pl_no rfl rfl rfl rfl rfl rfl (by first | (simp only [cmpP]; omega) | (simp [cmpP]; done) | (simp [cmpP]; omega)) ?_))
    exact rn_ret Tryd.func8 (.inl ⟨_, rfl, rfl⟩) ⟨by simp [blank_n, h1], rfl⟩
  by_cases h2 : c.toNat = 9
  · (repeat (first | refine pl_pure hT rfl rfl rfl ?_ | refine pl_nil ?_ | refine rn_seq ?_ | refine rn_plain ?_ | refine rn_block ?_ | refine rn_inBlock ?_ | refine rn_skip ?_ | refine rn_true rfl ?_ | refine rn_false rfl ?_ | refine rn_exit rfl ?_ | refine pl_not rfl rfl ?_ | refine pl_val _ rfl rfl (val_load1 hT rfl rfl rfl (Blk.cell (by assumption) (by rfl))) ?_ | refine pl_yes rfl rfl rfl rfl rfl (by first | (simp only [cmpP]; omega) | (simp [cmpP]; done) | (simp [cmpP]; omega)) ?_ | refine pl_no rfl rfl rfl rfl rfl rfl (by first | (simp only [cmpP]; omega) | (simp [cmpP]; done) | (simp [cmpP]; omega)) ?_))
    exact rn_ret Tryd.func8 (.inl ⟨_, rfl, rfl⟩) ⟨by simp [blank_n, h2], rfl⟩
  by_cases h3 : c.toNat = 10
  · (repeat (first | refine pl_pure hT rfl rfl rfl ?_ | refine pl_nil ?_ | refine rn_seq ?_ | refine rn_plain ?_ | refine rn_block ?_ | refine rn_inBlock ?_ | refine rn_skip ?_ | refine rn_true rfl ?_ | refine rn_false rfl ?_ | refine rn_exit rfl ?_ | refine pl_not rfl rfl ?_ | refine pl_val _ rfl rfl (val_load1 hT rfl rfl rfl (Blk.cell (by assumption) (by rfl))) ?_ | refine pl_yes rfl rfl rfl rfl rfl (by first | (simp only [cmpP]; omega) | (simp [cmpP]; done) | (simp [cmpP]; omega)) ?_ | refine pl_no rfl rfl rfl rfl rfl rfl (by first | (simp only [cmpP]; omega) | (simp [cmpP]; done) | (simp [cmpP]; omega)) ?_))
    exact rn_ret Tryd.func8 (.inl ⟨_, rfl, rfl⟩) ⟨by simp [blank_n, h3], rfl⟩
  by_cases h4 : c.toNat = 13
  · (repeat (first | refine pl_pure hT rfl rfl rfl ?_ | refine pl_nil ?_ | refine rn_seq ?_ | refine rn_plain ?_ | refine rn_block ?_ | refine rn_inBlock ?_ | refine rn_skip ?_ | refine rn_true rfl ?_ | refine rn_false rfl ?_ | refine rn_exit rfl ?_ | refine pl_not rfl rfl ?_ | refine pl_val _ rfl rfl (val_load1 hT rfl rfl rfl (Blk.cell (by assumption) (by rfl))) ?_ | refine pl_yes rfl rfl rfl rfl rfl (by first | (simp only [cmpP]; omega) | (simp [cmpP]; done) | (simp [cmpP]; omega)) ?_ | refine pl_no rfl rfl rfl rfl rfl rfl (by first | (simp only [cmpP]; omega) | (simp [cmpP]; done) | (simp [cmpP]; omega)) ?_))
    exact rn_ret Tryd.func8 (.inl ⟨_, rfl, rfl⟩) ⟨by simp [blank_n, h4], rfl⟩
  · (repeat (first | refine pl_pure hT rfl rfl rfl ?_ | refine pl_nil ?_ | refine rn_seq ?_ | refine rn_plain ?_ | refine rn_block ?_ | refine rn_inBlock ?_ | refine rn_skip ?_ | refine rn_true rfl ?_ | refine rn_false rfl ?_ | refine rn_exit rfl ?_ | refine pl_not rfl rfl ?_ | refine pl_val _ rfl rfl (val_load1 hT rfl rfl rfl (Blk.cell (by assumption) (by rfl))) ?_ | refine pl_yes rfl rfl rfl rfl rfl (by first | (simp only [cmpP]; omega) | (simp [cmpP]; done) | (simp [cmpP]; omega)) ?_ | refine pl_no rfl rfl rfl rfl rfl rfl (by first | (simp only [cmpP]; omega) | (simp [cmpP]; done) | (simp [cmpP]; omega)) ?_))
    exact rn_ret Tryd.func8 (.inl ⟨_, rfl, rfl⟩) ⟨by simp [blank_n, h1, h2, h3, h4], rfl⟩

theorem isLetter_ret (c : UInt8) (w : World) : Ret Tryd.prog 15 [.int .u8 (c.toNat : Nat)] w fun r w' => r = .bool (letB c) ∧ w' = w := by
  refine ret_of 9 Tryd.func15 rfl rfl (by simp) ?_
  by_cases h1 : 97 ≤ c.toNat
  · by_cases h2 : c.toNat ≤ 122
    · (repeat (first | refine pl_pure hT rfl rfl rfl ?_ | refine pl_nil ?_ | refine rn_seq ?_ | refine rn_plain ?_ | refine rn_block ?_ | refine rn_inBlock ?_ | refine rn_skip ?_ | refine rn_true rfl ?_ | refine rn_false rfl ?_ | refine rn_exit rfl ?_ | refine pl_not rfl rfl ?_ | refine pl_val _ rfl rfl (val_load1 hT rfl rfl rfl (Blk.cell (by assumption) (by rfl))) ?_ | refine pl_yes rfl rfl rfl rfl rfl (by first | (simp only [cmpP]; omega) | (simp [cmpP]; done) | (simp [cmpP]; omega)) ?_ | refine pl_no rfl rfl rfl rfl rfl rfl (by first | (simp only [cmpP]; omega) | (simp [cmpP]; done) | (simp [cmpP]; omega)) ?_))
      exact rn_ret Tryd.func15 (.inl ⟨_, rfl, rfl⟩) ⟨by simp [letB, h1, h2], rfl⟩
    · (repeat (first | refine pl_pure hT rfl rfl rfl ?_ | refine pl_nil ?_ | refine rn_seq ?_ | refine rn_plain ?_ | refine rn_block ?_ | refine rn_inBlock ?_ | refine rn_skip ?_ | refine rn_true rfl ?_ | refine rn_false rfl ?_ | refine rn_exit rfl ?_ | refine pl_not rfl rfl ?_ | refine pl_val _ rfl rfl (val_load1 hT rfl rfl rfl (Blk.cell (by assumption) (by rfl))) ?_ | refine pl_yes rfl rfl rfl rfl rfl (by first | (simp only [cmpP]; omega) | (simp [cmpP]; done) | (simp [cmpP]; omega)) ?_ | refine pl_no rfl rfl rfl rfl rfl rfl (by first | (simp only [cmpP]; omega) | (simp [cmpP]; done) | (simp [cmpP]; omega)) ?_))
      exact rn_ret Tryd.func15 (.inl ⟨_, rfl, rfl⟩) ⟨by simp [letB, h2], rfl⟩
  · (repeat (first | refine pl_pure hT rfl rfl rfl ?_ | refine pl_nil ?_ | refine rn_seq ?_ | refine rn_plain ?_ | refine rn_block ?_ | refine rn_inBlock ?_ | refine rn_skip ?_ | refine rn_true rfl ?_ | refine rn_false rfl ?_ | refine rn_exit rfl ?_ | refine pl_not rfl rfl ?_ | refine pl_val _ rfl rfl (val_load1 hT rfl rfl rfl (Blk.cell (by assumption) (by rfl))) ?_ | refine pl_yes rfl rfl rfl rfl rfl (by first | (simp only [cmpP]; omega) | (simp [cmpP]; done) | (simp [cmpP]; omega)) ?_ | refine pl_no rfl rfl rfl rfl rfl rfl (by first | (simp only [cmpP]; omega) | (simp [cmpP]; done) | (simp [cmpP]; omega)) ?_))
    exact rn_ret Tryd.func15 (.inl ⟨_, rfl, rfl⟩) ⟨by simp [letB, h1], rfl⟩

theorem isDigit_ret (c : UInt8) (w : World) : Ret Tryd.prog 17 [.int .u8 (c.toNat : Nat)] w fun r w' => r = .bool (dig c) ∧ w' = w := by
  refine ret_of 9 Tryd.func17 rfl rfl (by simp) ?_
  by_cases h1 : 48 ≤ c.toNat
  · by_cases h2 : c.toNat ≤ 57
    · (repeat (first | refine pl_pure hT rfl rfl rfl ?_ | refine pl_nil ?_ | refine rn_seq ?_ | refine rn_plain ?_ | refine rn_block ?_ | refine rn_inBlock ?_ | refine rn_skip ?_ | refine rn_true rfl ?_ | refine rn_false rfl ?_ | refine rn_exit rfl ?_ | refine pl_not rfl rfl ?_ | refine pl_val _ rfl rfl (val_load1 hT rfl rfl rfl (Blk.cell (by assumption) (by rfl))) ?_ | refine pl_yes rfl rfl rfl rfl rfl (by first | (simp only [cmpP]; omega) | (simp [cmpP]; done) | (simp [cmpP]; omega)) ?_ | refine pl_no rfl rfl rfl rfl rfl rfl (by first | (simp only [cmpP]; omega) | (simp [cmpP]; done) | (simp [cmpP]; omega)) ?_))
      exact rn_ret Tryd.func17 (.inl ⟨_, rfl, rfl⟩) ⟨by simp [dig, h1, h2], rfl⟩
    · (repeat (first | refine pl_pure hT rfl rfl rfl ?_ | refine pl_nil ?_ | refine rn_seq ?_ | refine rn_plain ?_ | refine rn_block ?_ | refine rn_inBlock ?_ | refine rn_skip ?_ | refine rn_true rfl ?_ | refine rn_false rfl ?_ | refine rn_exit rfl ?_ | refine pl_not rfl rfl ?_ | refine pl_val _ rfl rfl (val_load1 hT rfl rfl rfl (Blk.cell (by assumption) (by rfl))) ?_ | refine pl_yes rfl rfl rfl rfl rfl (by first | (simp only [cmpP]; omega) | (simp [cmpP]; done) | (simp [cmpP]; omega)) ?_ | refine pl_no rfl rfl rfl rfl rfl rfl (by first | (simp only [cmpP]; omega) | (simp [cmpP]; done) | (simp [cmpP]; omega)) ?_))
      exact rn_ret Tryd.func17 (.inl ⟨_, rfl, rfl⟩) ⟨by simp [dig, h2], rfl⟩
  · (repeat (first | refine pl_pure hT rfl rfl rfl ?_ | refine pl_nil ?_ | refine rn_seq ?_ | refine rn_plain ?_ | refine rn_block ?_ | refine rn_inBlock ?_ | refine rn_skip ?_ | refine rn_true rfl ?_ | refine rn_false rfl ?_ | refine rn_exit rfl ?_ | refine pl_not rfl rfl ?_ | refine pl_val _ rfl rfl (val_load1 hT rfl rfl rfl (Blk.cell (by assumption) (by rfl))) ?_ | refine pl_yes rfl rfl rfl rfl rfl (by first | (simp only [cmpP]; omega) | (simp [cmpP]; done) | (simp [cmpP]; omega)) ?_ | refine pl_no rfl rfl rfl rfl rfl rfl (by first | (simp only [cmpP]; omega) | (simp [cmpP]; done) | (simp [cmpP]; omega)) ?_))
    exact rn_ret Tryd.func17 (.inl ⟨_, rfl, rfl⟩) ⟨by simp [dig, h1], rfl⟩

theorem letterR_ret (c : UInt8) (w : World) : Ret Tryd.prog 11 [.int .u8 (c.toNat : Nat)] w fun r w' => r = .bool (letB c) ∧ w' = w := by
  refine ret_of 9 Tryd.func11 rfl rfl (by simp) ?_
  by_cases h1 : 97 ≤ c.toNat
  · by_cases h2 : c.toNat ≤ 122
    · (repeat (first | refine pl_pure hT rfl rfl rfl ?_ | refine pl_nil ?_ | refine rn_seq ?_ | refine rn_plain ?_ | refine rn_block ?_ | refine rn_inBlock ?_ | refine rn_skip ?_ | refine rn_true rfl ?_ | refine rn_false rfl ?_ | refine rn_exit rfl ?_ | refine pl_not rfl rfl ?_ | refine pl_val _ rfl rfl (val_load1 hT rfl rfl rfl (Blk.cell (by assumption) (by rfl))) ?_ | refine pl_yes rfl rfl rfl rfl rfl (by first | (simp only [cmpP]; omega) | (simp [cmpP]; done) | (simp [cmpP]; omega)) ?_ | refine pl_no rfl rfl rfl rfl rfl rfl (by first | (simp only [cmpP]; omega) | (simp [cmpP]; done) | (simp [cmpP]; omega)) ?_))
      exact rn_ret Tryd.func11 (.inl ⟨_, rfl, rfl⟩) ⟨by simp [letB, h1, h2], rfl⟩
    · (repeat (first | refine pl_pure hT rfl rfl rfl ?_ | refine pl_nil ?_ | refine rn_seq ?_ | refine rn_plain ?_ | refine rn_block ?_ | refine rn_inBlock ?_ | refine rn_skip ?_ | refine rn_true rfl ?_ | refine rn_false rfl ?_ | refine rn_exit rfl ?_ | refine pl_not rfl rfl ?_ | refine pl_val _ rfl rfl (val_load1 hT rfl rfl rfl (Blk.cell (by assumption) (by rfl))) ?_ | refine pl_yes rfl rfl rfl rfl rfl (by first | (simp only [cmpP]; omega) | (simp [cmpP]; done) | (simp [cmpP]; omega)) ?_ | refine pl_no rfl rfl rfl rfl rfl rfl (by first | (simp only [cmpP]; omega) | (simp [cmpP]; done) | (simp [cmpP]; omega)) ?_))
      exact rn_ret Tryd.func11 (.inl ⟨_, rfl, rfl⟩) ⟨by simp [letB, h2], rfl⟩
  · (repeat (first | refine pl_pure hT rfl rfl rfl ?_ | refine pl_nil ?_ | refine rn_seq ?_ | refine rn_plain ?_ | refine rn_block ?_ | refine rn_inBlock ?_ | refine rn_skip ?_ | refine rn_true rfl ?_ | refine rn_false rfl ?_ | refine rn_exit rfl ?_ | refine pl_not rfl rfl ?_ | refine pl_val _ rfl rfl (val_load1 hT rfl rfl rfl (Blk.cell (by assumption) (by rfl))) ?_ | refine pl_yes rfl rfl rfl rfl rfl (by first | (simp only [cmpP]; omega) | (simp [cmpP]; done) | (simp [cmpP]; omega)) ?_ | refine pl_no rfl rfl rfl rfl rfl rfl (by first | (simp only [cmpP]; omega) | (simp [cmpP]; done) | (simp [cmpP]; omega)) ?_))
    exact rn_ret Tryd.func11 (.inl ⟨_, rfl, rfl⟩) ⟨by simp [letB, h1], rfl⟩

theorem digitR_ret (c : UInt8) (w : World) : Ret Tryd.prog 12 [.int .u8 (c.toNat : Nat)] w fun r w' => r = .bool (dig c) ∧ w' = w := by
  refine ret_of 9 Tryd.func12 rfl rfl (by simp) ?_
  by_cases h1 : 48 ≤ c.toNat
  · by_cases h2 : c.toNat ≤ 57
    · (repeat (first | refine pl_pure hT rfl rfl rfl ?_ | refine pl_nil ?_ | refine rn_seq ?_ | refine rn_plain ?_ | refine rn_block ?_ | refine rn_inBlock ?_ | refine rn_skip ?_ | refine rn_true rfl ?_ | refine rn_false rfl ?_ | refine rn_exit rfl ?_ | refine pl_not rfl rfl ?_ | refine pl_val _ rfl rfl (val_load1 hT rfl rfl rfl (Blk.cell (by assumption) (by rfl))) ?_ | refine pl_yes rfl rfl rfl rfl rfl (by first | (simp only [cmpP]; omega) | (simp [cmpP]; done) | (simp [cmpP]; omega)) ?_ | refine pl_no rfl rfl rfl rfl rfl rfl (by first | (simp only [cmpP]; omega) | (simp [cmpP]; done) | (simp [cmpP]; omega)) ?_))
      exact rn_ret Tryd.func12 (.inl ⟨_, rfl, rfl⟩) ⟨by simp [dig, h1, h2], rfl⟩
    · (repeat (first | refine pl_pure hT rfl rfl rfl ?_ | refine pl_nil ?_ | refine rn_seq ?_ | refine rn_plain ?_ | refine rn_block ?_ | refine rn_inBlock ?_ | refine rn_skip ?_ | refine rn_true rfl ?_ | refine rn_false rfl ?_ | refine rn_exit rfl ?_ | refine pl_not rfl rfl ?_ | refine pl_val _ rfl rfl (val_load1 hT rfl rfl rfl (Blk.cell (by assumption) (by rfl))) ?_ | refine pl_yes rfl rfl rfl rfl rfl (by first | (simp only [cmpP]; omega) | (simp [cmpP]; done) | (simp [cmpP]; omega)) ?_ | refine pl_no rfl rfl rfl rfl rfl rfl (by first | (simp only [cmpP]; omega) | (simp [cmpP]; done) | (simp [cmpP]; omega)) ?_))
      exact rn_ret Tryd.func12 (.inl ⟨_, rfl, rfl⟩) ⟨by simp [dig, h2], rfl⟩
  · (repeat (first | refine pl_pure hT rfl rfl rfl ?_ | refine pl_nil ?_ | refine rn_seq ?_ | refine rn_plain ?_ | refine rn_block ?_ | refine rn_inBlock ?_ | refine rn_skip ?_ | refine rn_true rfl ?_ | refine rn_false rfl ?_ | refine rn_exit rfl ?_ | refine pl_not rfl rfl ?_ | refine pl_val _ rfl rfl (val_load1 hT rfl rfl rfl (Blk.cell (by assumption) (by rfl))) ?_ | refine pl_yes rfl rfl rfl rfl rfl (by first | (simp only [cmpP]; omega) | (simp [cmpP]; done) | (simp [cmpP]; omega)) ?_ | refine pl_no rfl rfl rfl rfl rfl rfl (by first | (simp only [cmpP]; omega) | (simp [cmpP]; done) | (simp [cmpP]; omega)) ?_))
    exact rn_ret Tryd.func12 (.inl ⟨_, rfl, rfl⟩) ⟨by simp [dig, h1], rfl⟩

/-! ### A run of bytes -/
theorem take_step {p : UInt8 → Bool} {l : List UInt8} {i : Nat} (hi : i < l.length) : (l.drop i).takeWhile p = if p l[i] = true then l[i] :: (l.drop (i + 1)).takeWhile p else [] := by
  rw [List.drop_eq_getElem_cons hi]
  split
  · rename_i h; rw [List.takeWhile_cons_of_pos h]
  · rename_i h; rw [List.takeWhile_cons_of_neg h]

theorem run_ret (g : Nat) (p : UInt8 → Bool) (hg : callable Tryd.prog g = true) (hp : ∀ (c : UInt8) (w : World), Ret Tryd.prog g [.int .u8 (c.toNat : Nat)] w fun r w' => r = .bool (p c) ∧ w' = w) (l : List UInt8) (hl : l.length ≤ 1000000) (w : World) :
    Ret Tryd.prog 16 [.string (str l), .func (.func g) #[] #[]] w fun r w' => r = .int .i64 ((l.takeWhile p).length : Nat) ∧ w' = w := by
  refine ret_of 20 Tryd.func16 rfl rfl (by simp) ?_
  (repeat (first | refine pl_pure hT rfl rfl rfl ?_ | refine pl_nil ?_ | refine rn_seq ?_ | refine rn_plain ?_ | refine rn_block ?_ | refine rn_inBlock ?_ | refine rn_skip ?_ | refine rn_true rfl ?_ | refine rn_false rfl ?_ | refine rn_exit rfl ?_ | refine pl_not rfl rfl ?_))
  refine rn_ind (fun m σ w' => ∃ i : Nat, i ≤ l.length ∧ m = l.length - i ∧ σ = [(0, .string (str l)), (1, .func (.func g) #[] #[]), (5, .int .i64 (i : Nat))] ∧ (l.takeWhile p).length = i + ((l.drop i).takeWhile p).length ∧ w' = w) l.length _ ?_ ⟨0, by omega, by omega, rfl, by simp, rfl⟩ ?_
  · exact ⟨rfl, rfl, rfl, trivial⟩
  rintro m σ w2 ih ⟨i, hi, rfl, rfl, ht, rfl⟩
  (repeat (first | refine pl_pure hT rfl rfl rfl ?_ | refine pl_nil ?_ | refine rn_seq ?_ | refine rn_plain ?_ | refine rn_block ?_ | refine rn_inBlock ?_ | refine rn_skip ?_ | refine rn_true rfl ?_ | refine rn_false rfl ?_ | refine rn_exit rfl ?_ | refine pl_not rfl rfl ?_))
  refine pl_val _ rfl rfl (val_len l (by decide +kernel) rfl rfl w2) ?_
  by_cases hlt : i < l.length
  · refine pl_yes rfl rfl rfl rfl rfl (by first | (simp only [cmpP]; omega) | (simp [cmpP]; done) | (simp [cmpP]; omega)) ?_
    (repeat (first | refine pl_pure hT rfl rfl rfl ?_ | refine pl_nil ?_ | refine rn_seq ?_ | refine rn_plain ?_ | refine rn_block ?_ | refine rn_inBlock ?_ | refine rn_skip ?_ | refine rn_true rfl ?_ | refine rn_false rfl ?_ | refine rn_exit rfl ?_ | refine pl_not rfl rfl ?_))
    refine pl_val _ rfl rfl (val_byte l i l[i] (by decide +kernel) rfl rfl rfl rfl (List.getElem?_eq_getElem hlt) w2) ?_
    refine pl_op rfl rfl (opTo_call (fst := []) (cap := []) rfl rfl rfl rfl hg ((hp l[i] w2).mono ?_))
    rintro v w3 ⟨rfl, rfl⟩
    rw [take_step hlt] at ht
    cases hpb : p l[i] with
    | true =>
      rw [hpb, if_pos rfl, List.length_cons] at ht
      (repeat (first | refine pl_pure hT rfl rfl rfl ?_ | refine pl_nil ?_ | refine rn_seq ?_ | refine rn_plain ?_ | refine rn_block ?_ | refine rn_inBlock ?_ | refine rn_skip ?_ | refine rn_true rfl ?_ | refine rn_false rfl ?_ | refine rn_exit rfl ?_ | refine pl_not rfl rfl ?_))
      refine pl_num (((i + 1 : Nat) : Int)) rfl rfl rfl rfl rfl (by simp only [ariP]; omega) ?_
      (repeat (first | refine pl_pure hT rfl rfl rfl ?_ | refine pl_nil ?_ | refine rn_seq ?_ | refine rn_plain ?_ | refine rn_block ?_ | refine rn_inBlock ?_ | refine rn_skip ?_ | refine rn_true rfl ?_ | refine rn_false rfl ?_ | refine rn_exit rfl ?_ | refine pl_not rfl rfl ?_))
      refine rn_sub ?_ (ih _ _ _ ?_ ⟨i + 1, hlt, rfl, rfl, by omega, rfl⟩)
      · exact ⟨rfl, rfl, rfl, trivial⟩
      · omega
    | false =>
      rw [hpb, if_neg (by decide), List.length_nil] at ht
      (repeat (first | refine pl_pure hT rfl rfl rfl ?_ | refine pl_nil ?_ | refine rn_seq ?_ | refine rn_plain ?_ | refine rn_block ?_ | refine rn_inBlock ?_ | refine rn_skip ?_ | refine rn_true rfl ?_ | refine rn_false rfl ?_ | refine rn_exit rfl ?_ | refine pl_not rfl rfl ?_))
      exact rn_ret Tryd.func16 (.inl ⟨_, rfl, rfl⟩) ⟨by rw [ht]; rfl, rfl⟩
  · refine pl_no rfl rfl rfl rfl rfl rfl (by first | (simp only [cmpP]; omega) | (simp [cmpP]; done) | (simp [cmpP]; omega)) ?_
    (repeat (first | refine pl_pure hT rfl rfl rfl ?_ | refine pl_nil ?_ | refine rn_seq ?_ | refine rn_plain ?_ | refine rn_block ?_ | refine rn_inBlock ?_ | refine rn_skip ?_ | refine rn_true rfl ?_ | refine rn_false rfl ?_ | refine rn_exit rfl ?_ | refine pl_not rfl rfl ?_))
    have e : i = l.length := by omega
    rw [e, List.drop_length] at ht
    exact rn_ret Tryd.func16 (.inl ⟨_, rfl, rfl⟩) ⟨by rw [ht, e]; rfl, rfl⟩
end E
end Go.Proofs.YthidfgolcibcoacDoor
