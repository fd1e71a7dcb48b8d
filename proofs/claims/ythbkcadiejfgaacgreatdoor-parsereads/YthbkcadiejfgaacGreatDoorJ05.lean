/- Several texts in one: RwA, PrtM, PrtN, PrtO, TokF, PrtQ, Rd, RdL. -/
import Derived.Test.YthbkcadiejfgaacGreatDoorJ02
import Derived.Test.YthbkcadiejfgaacGreatDoorJ03
import Derived.Test.YthbkcadiejfgaacGreatDoorJ04
import Derived.Deep.Slices
import Derived.OpenShut
/- Contracts of the document's WordOf, VerbOf. -/
namespace Go.Proofs.YthbkcadiejfgaacGreatDoor
set_option maxRecDepth 20000
set_option maxHeartbeats 4000000
namespace E
open Go.Proofs

def wordI (op : Int) : List UInt8 := if 1 ≤ op ∧ op ≤ 8 then wordT op.toNat else []
def verbI (op : Int) : List UInt8 := if 1 ≤ op ∧ op ≤ 7 then verbT op.toNat else []
theorem slice_word : sliceCells Tryz.prog 62 8 [(0, Value.string (str [110, 117, 109])), (1, Value.string (str [118, 97, 114])), (2, Value.string (str [103, 101, 116])), (3, Value.string (str [97, 100, 100])), (4, Value.string (str [115, 117, 98])), (5, Value.string (str [109, 117, 108])), (6, Value.string (str [108, 101, 115, 115])), (7, Value.string (str [115, 97, 109, 101]))] = some (9, ([Value.string (str [110, 117, 109]), Value.string (str [118, 97, 114]), Value.string (str [103, 101, 116]), Value.string (str [97, 100, 100]), Value.string (str [115, 117, 98]), Value.string (str [109, 117, 108]), Value.string (str [108, 101, 115, 115]), Value.string (str [115, 97, 109, 101])] : List Value).toArray) := by kernel_rfl
theorem wordR_ret (op : Int) (w : World) : Ret Tryz.prog 10 [.int .i64 op] w fun r w' => r = .string (str (wordI op)) ∧ Keep [] w w' := by
  refine ret_of 18 Tryz.func10 rfl rfl (by simp) ?_
  (repeat (first | refine pl_pure hT rfl rfl rfl ?_ | refine pl_nil ?_ | refine rn_seq ?_ | refine rn_plain ?_ | refine rn_block ?_ | refine rn_inBlock ?_ | refine rn_skip ?_ | refine rn_true rfl ?_ | refine rn_false rfl ?_ | refine rn_exit rfl ?_ | refine pl_not rfl rfl ?_))
  refine pl_op rfl rfl (opTo_sliceN _ _ rfl rfl slice_word ?_)
  intro w1 g hg hs1 hk1 hb1
  (repeat (first | refine pl_pure hT rfl rfl rfl ?_ | refine pl_nil ?_ | refine rn_seq ?_ | refine rn_plain ?_ | refine rn_block ?_ | refine rn_inBlock ?_ | refine rn_skip ?_ | refine rn_true rfl ?_ | refine rn_false rfl ?_ | refine rn_exit rfl ?_ | refine pl_not rfl rfl ?_))
  by_cases h1 : op < 1
  · (repeat (first | refine pl_pure hT rfl rfl rfl ?_ | refine pl_nil ?_ | refine rn_seq ?_ | refine rn_plain ?_ | refine rn_block ?_ | refine rn_inBlock ?_ | refine rn_skip ?_ | refine rn_true rfl ?_ | refine rn_false rfl ?_ | refine rn_exit rfl ?_ | refine pl_not rfl rfl ?_ | refine pl_val _ rfl rfl (val_load1 hT rfl rfl rfl (Blk.cell (by assumption) (by rfl))) ?_ | refine pl_yes rfl rfl rfl rfl rfl (by first | (simp only [cmpP]; omega) | (simp [cmpP]; done) | (simp [cmpP]; omega)) ?_ | refine pl_no rfl rfl rfl rfl rfl rfl (by first | (simp only [cmpP]; omega) | (simp [cmpP]; done) | (simp [cmpP]; omega)) ?_))
    exact rn_ret Tryz.func10 (.inl ⟨_, rfl, rfl⟩) ⟨by unfold wordI; rw [if_neg (by omega)]; rfl, hk1⟩
  by_cases h2 : op > 8
  · (repeat (first | refine pl_pure hT rfl rfl rfl ?_ | refine pl_nil ?_ | refine rn_seq ?_ | refine rn_plain ?_ | refine rn_block ?_ | refine rn_inBlock ?_ | refine rn_skip ?_ | refine rn_true rfl ?_ | refine rn_false rfl ?_ | refine rn_exit rfl ?_ | refine pl_not rfl rfl ?_ | refine pl_val _ rfl rfl (val_load1 hT rfl rfl rfl (Blk.cell (by assumption) (by rfl))) ?_ | refine pl_yes rfl rfl rfl rfl rfl (by first | (simp only [cmpP]; omega) | (simp [cmpP]; done) | (simp [cmpP]; omega)) ?_ | refine pl_no rfl rfl rfl rfl rfl rfl (by first | (simp only [cmpP]; omega) | (simp [cmpP]; done) | (simp [cmpP]; omega)) ?_))
    exact rn_ret Tryz.func10 (.inl ⟨_, rfl, rfl⟩) ⟨by unfold wordI; rw [if_neg (by omega)]; rfl, hk1⟩
  obtain ⟨j, rfl⟩ : ∃ j : Nat, op = ((j + 1 : Nat) : Int) := ⟨(op - 1).toNat, by omega⟩
  have hj : j < 8 := by omega
  (repeat (first | refine pl_pure hT rfl rfl rfl ?_ | refine pl_nil ?_ | refine rn_seq ?_ | refine rn_plain ?_ | refine rn_block ?_ | refine rn_inBlock ?_ | refine rn_skip ?_ | refine rn_true rfl ?_ | refine rn_false rfl ?_ | refine rn_exit rfl ?_ | refine pl_not rfl rfl ?_ | refine pl_val _ rfl rfl (val_load1 hT rfl rfl rfl (Blk.cell (by assumption) (by rfl))) ?_ | refine pl_yes rfl rfl rfl rfl rfl (by first | (simp only [cmpP]; omega) | (simp [cmpP]; done) | (simp [cmpP]; omega)) ?_ | refine pl_no rfl rfl rfl rfl rfl rfl (by first | (simp only [cmpP]; omega) | (simp [cmpP]; done) | (simp [cmpP]; omega)) ?_))
  refine pl_num (((j : Nat) : Int)) rfl rfl rfl rfl rfl (by simp only [ariP]; omega) ?_
  refine pl_val _ rfl rfl (val_index j hT rfl rfl rfl rfl rfl hj w1) ?_
  have hcell : ([Value.string (str [110, 117, 109]), Value.string (str [118, 97, 114]), Value.string (str [103, 101, 116]), Value.string (str [97, 100, 100]), Value.string (str [115, 117, 98]), Value.string (str [109, 117, 108]), Value.string (str [108, 101, 115, 115]), Value.string (str [115, 97, 109, 101])] : List Value)[0 + j * 1]? = some (Value.string (str (wordI ((j + 1 : Nat) : Int)))) := by
    have : j = 0 ∨ j = 1 ∨ j = 2 ∨ j = 3 ∨ j = 4 ∨ j = 5 ∨ j = 6 ∨ j = 7 := by omega
    rcases this with rfl | rfl | rfl | rfl | rfl | rfl | rfl | rfl <;> rfl
  refine pl_val _ rfl rfl (val_load1 hT rfl rfl rfl (Blk.cell hb1 hcell)) ?_
  (repeat (first | refine pl_pure hT rfl rfl rfl ?_ | refine pl_nil ?_ | refine rn_seq ?_ | refine rn_plain ?_ | refine rn_block ?_ | refine rn_inBlock ?_ | refine rn_skip ?_ | refine rn_true rfl ?_ | refine rn_false rfl ?_ | refine rn_exit rfl ?_ | refine pl_not rfl rfl ?_))
  exact rn_ret Tryz.func10 (.inl ⟨_, rfl, rfl⟩) ⟨rfl, hk1⟩

theorem slice_verb : sliceCells Tryz.prog 62 7 [(0, Value.string (str [115, 101, 116])), (1, Value.string (str [112, 117, 116])), (2, Value.string (str [112, 114, 105, 110, 116])), (3, Value.string (str [114, 101, 97, 100])), (4, Value.string (str [119, 104, 105, 108, 101])), (5, Value.string (str [105, 102])), (6, Value.string (str [99, 111, 109, 109, 105, 116]))] = some (9, ([Value.string (str [115, 101, 116]), Value.string (str [112, 117, 116]), Value.string (str [112, 114, 105, 110, 116]), Value.string (str [114, 101, 97, 100]), Value.string (str [119, 104, 105, 108, 101]), Value.string (str [105, 102]), Value.string (str [99, 111, 109, 109, 105, 116])] : List Value).toArray) := by kernel_rfl
theorem verbR_ret (op : Int) (w : World) : Ret Tryz.prog 12 [.int .i64 op] w fun r w' => r = .string (str (verbI op)) ∧ Keep [] w w' := by
  refine ret_of 18 Tryz.func12 rfl rfl (by simp) ?_
  (repeat (first | refine pl_pure hT rfl rfl rfl ?_ | refine pl_nil ?_ | refine rn_seq ?_ | refine rn_plain ?_ | refine rn_block ?_ | refine rn_inBlock ?_ | refine rn_skip ?_ | refine rn_true rfl ?_ | refine rn_false rfl ?_ | refine rn_exit rfl ?_ | refine pl_not rfl rfl ?_))
  refine pl_op rfl rfl (opTo_sliceN _ _ rfl rfl slice_verb ?_)
  intro w1 g hg hs1 hk1 hb1
  (repeat (first | refine pl_pure hT rfl rfl rfl ?_ | refine pl_nil ?_ | refine rn_seq ?_ | refine rn_plain ?_ | refine rn_block ?_ | refine rn_inBlock ?_ | refine rn_skip ?_ | refine rn_true rfl ?_ | refine rn_false rfl ?_ | refine rn_exit rfl ?_ | refine pl_not rfl rfl ?_))
  by_cases h1 : op < 1
  · (repeat (first | refine pl_pure hT rfl rfl rfl ?_ | refine pl_nil ?_ | refine rn_seq ?_ | refine rn_plain ?_ | refine rn_block ?_ | refine rn_inBlock ?_ | refine rn_skip ?_ | refine rn_true rfl ?_ | refine rn_false rfl ?_ | refine rn_exit rfl ?_ | refine pl_not rfl rfl ?_ | refine pl_val _ rfl rfl (val_load1 hT rfl rfl rfl (Blk.cell (by assumption) (by rfl))) ?_ | refine pl_yes rfl rfl rfl rfl rfl (by first | (simp only [cmpP]; omega) | (simp [cmpP]; done) | (simp [cmpP]; omega)) ?_ | refine pl_no rfl rfl rfl rfl rfl rfl (by first | (simp only [cmpP]; omega) | (simp [cmpP]; done) | (simp [cmpP]; omega)) ?_))
    exact rn_ret Tryz.func12 (.inl ⟨_, rfl, rfl⟩) ⟨by unfold verbI; rw [if_neg (by omega)]; rfl, hk1⟩
  by_cases h2 : op > 7
  · (repeat (first | refine pl_pure hT rfl rfl rfl ?_ | refine pl_nil ?_ | refine rn_seq ?_ | refine rn_plain ?_ | refine rn_block ?_ | refine rn_inBlock ?_ | refine rn_skip ?_ | refine rn_true rfl ?_ | refine rn_false rfl ?_ | refine rn_exit rfl ?_ | refine pl_not rfl rfl ?_ | refine pl_val _ rfl rfl (val_load1 hT rfl rfl rfl (Blk.cell (by assumption) (by rfl))) ?_ | refine pl_yes rfl rfl rfl rfl rfl (by first | (simp only [cmpP]; omega) | (simp [cmpP]; done) | (simp [cmpP]; omega)) ?_ | refine pl_no rfl rfl rfl rfl rfl rfl (by first | (simp only [cmpP]; omega) | (simp [cmpP]; done) | (simp [cmpP]; omega)) ?_))
    exact rn_ret Tryz.func12 (.inl ⟨_, rfl, rfl⟩) ⟨by unfold verbI; rw [if_neg (by omega)]; rfl, hk1⟩
  obtain ⟨j, rfl⟩ : ∃ j : Nat, op = ((j + 1 : Nat) : Int) := ⟨(op - 1).toNat, by omega⟩
  have hj : j < 7 := by omega
  (repeat (first | refine pl_pure hT rfl rfl rfl ?_ | refine pl_nil ?_ | refine rn_seq ?_ | refine rn_plain ?_ | refine rn_block ?_ | refine rn_inBlock ?_ | refine rn_skip ?_ | refine rn_true rfl ?_ | refine rn_false rfl ?_ | refine rn_exit rfl ?_ | refine pl_not rfl rfl ?_ | refine pl_val _ rfl rfl (val_load1 hT rfl rfl rfl (Blk.cell (by assumption) (by rfl))) ?_ | refine pl_yes rfl rfl rfl rfl rfl (by first | (simp only [cmpP]; omega) | (simp [cmpP]; done) | (simp [cmpP]; omega)) ?_ | refine pl_no rfl rfl rfl rfl rfl rfl (by first | (simp only [cmpP]; omega) | (simp [cmpP]; done) | (simp [cmpP]; omega)) ?_))
  refine pl_num (((j : Nat) : Int)) rfl rfl rfl rfl rfl (by simp only [ariP]; omega) ?_
  refine pl_val _ rfl rfl (val_index j hT rfl rfl rfl rfl rfl hj w1) ?_
  have hcell : ([Value.string (str [115, 101, 116]), Value.string (str [112, 117, 116]), Value.string (str [112, 114, 105, 110, 116]), Value.string (str [114, 101, 97, 100]), Value.string (str [119, 104, 105, 108, 101]), Value.string (str [105, 102]), Value.string (str [99, 111, 109, 109, 105, 116])] : List Value)[0 + j * 1]? = some (Value.string (str (verbI ((j + 1 : Nat) : Int)))) := by
    have : j = 0 ∨ j = 1 ∨ j = 2 ∨ j = 3 ∨ j = 4 ∨ j = 5 ∨ j = 6 := by omega
    rcases this with rfl | rfl | rfl | rfl | rfl | rfl | rfl <;> rfl
  refine pl_val _ rfl rfl (val_load1 hT rfl rfl rfl (Blk.cell hb1 hcell)) ?_
  (repeat (first | refine pl_pure hT rfl rfl rfl ?_ | refine pl_nil ?_ | refine rn_seq ?_ | refine rn_plain ?_ | refine rn_block ?_ | refine rn_inBlock ?_ | refine rn_skip ?_ | refine rn_true rfl ?_ | refine rn_false rfl ?_ | refine rn_exit rfl ?_ | refine pl_not rfl rfl ?_))
  exact rn_ret Tryz.func12 (.inl ⟨_, rfl, rfl⟩) ⟨rfl, hk1⟩

end E
end Go.Proofs.YthbkcadiejfgaacGreatDoor

/- Plain mathematics of printing: the text of a program, its tokens, and that they are read as the program that it was. -/
namespace Go.Proofs.YthbkcadiejfgaacGreatDoor
set_option maxRecDepth 20000
set_option maxHeartbeats 4000000
namespace E
open Go.Lib

/-! ### Scanning piece by piece -/
abbrev Tk := List UInt8 × Bool × Int
def tri (t : Tok) : Tk := (t.text, t.num, t.val)
/-- A token ends ahead of it. -/
def brk : List UInt8 → Bool
  | [] => true
  | c :: _ => blankB c || parenB c
theorem brk_let {c : UInt8} (h : (blankB c || parenB c) = true) : letB c = false ∧ dig c = false := by
  simp only [blankB, parenB, Bool.or_eq_true, beq_iff_eq] at h
  rcases h with (((rfl | rfl) | rfl) | rfl) | (rfl | rfl) <;> exact ⟨by decide, by decide⟩
theorem take_brk (p : UInt8 → Bool) (hp : ∀ c, (blankB c || parenB c) = true → p c = false) {q : List UInt8} (hq : brk q = true) : ∀ (r : List UInt8), (r ++ q).takeWhile p = r.takeWhile p
  | [] => by
    cases q with
    | nil => rfl
    | cons c q => rw [List.nil_append, List.takeWhile_cons_of_neg (by rw [hp c hq]; decide)]; rfl
  | c :: r => by
    by_cases hc : p c = true
    · rw [List.cons_append, List.takeWhile_cons_of_pos hc, List.takeWhile_cons_of_pos hc, take_brk p hp hq r]
    · rw [List.cons_append, List.takeWhile_cons_of_neg hc, List.takeWhile_cons_of_neg hc]
/-- What begins at a byte is the same with more behind it. -/
theorem bit_brk {q : List UInt8} (hq : brk q = true) (c : UInt8) (r : List UInt8) : bit c (r ++ q) = bit c r := by
  unfold bit
  rw [take_brk letB (fun c h => (brk_let h).1) hq, take_brk dig (fun c h => (brk_let h).2) hq]

/-- Text T has the tokens K, whatever stands behind it. -/
def Scans (T : List UInt8) (K : List Tk) : Prop := ∀ (f pos : Nat) (rest : List UInt8), brk rest = true → (T ++ rest).length ≤ f →
  ∃ us : List Tok, us.map tri = K ∧ ∀ acc, putT acc (toks f pos (T ++ rest)) = putT (acc ++ us) (toks f (pos + T.length) rest)

theorem scans_nil : Scans [] [] := fun f pos rest _ _ => ⟨[], rfl, fun acc => by simp⟩
theorem scans_app {T T' : List UInt8} {K K' : List Tk} (h : Scans T K) (h' : Scans T' K') (hb : brk T' = true ∨ T = []) : Scans (T ++ T') (K ++ K') := by
  intro f pos rest hr hl
  have hb2 : brk (T' ++ rest) = true ∨ T = [] := by
    rcases hb with hb | hb
    · left
      cases T' with
      | nil => exact hr
      | cons c r => exact hb
    · exact .inr hb
  rcases hb2 with hb2 | rfl
  · obtain ⟨us, h1, h2⟩ := h f pos (T' ++ rest) hb2 (by rw [List.append_assoc] at hl; exact hl)
    obtain ⟨us', h3, h4⟩ := h' f (pos + T.length) rest hr (by simp only [List.length_append] at hl ⊢; omega)
    refine ⟨us ++ us', by rw [List.map_append, h1, h3], fun acc => ?_⟩
    rw [List.append_assoc, h2, h4, List.append_assoc, List.length_append, Nat.add_assoc]
  · have hK : K = [] := by
      obtain ⟨us, h1, h2⟩ := h 0 0 [] rfl (Nat.le_refl _)
      have := h2 []
      simp only [List.nil_append, toks, putT, List.append_nil] at this
      injection this with this
      rw [← h1, ← this]
      rfl
    rw [hK]
    exact h' f pos rest hr hl
theorem scans_blank {c : UInt8} (h : blankB c = true) : Scans [c] [] := by
  intro f pos rest _ hl
  refine ⟨[], rfl, fun acc => ?_⟩
  rw [List.append_nil, List.singleton_append, toks_skip (bit_blank c rest h) hl]
  rfl
theorem scans_tok {c : UInt8} {u : List UInt8} {b : Bool} {v : Int} (h : bit c u = .tok (c :: u) b v) : Scans (c :: u) [(c :: u, b, v)] := by
  intro f pos rest hr hl
  have hb : bit c (u ++ rest) = .tok (c :: u) b v := by rw [bit_brk hr, h]
  refine ⟨[⟨pos, c :: u, b, v⟩], rfl, fun acc => ?_⟩
  rw [List.cons_append] at hl ⊢
  rw [putT_tok acc hb hl, ← List.cons_append, List.drop_left]
theorem scans_paren {c : UInt8} (h : parenB c = true) : Scans [c] [([c], false, 0)] := by
  have hb : blankB c = false := by
    simp only [parenB, Bool.or_eq_true, beq_iff_eq] at h
    rcases h with rfl | rfl <;> decide
  refine scans_tok ?_
  unfold bit
  rw [hb, h]
  rfl
theorem let_plain {c : UInt8} (h : letB c = true) : blankB c = false ∧ parenB c = false ∧ dig c = false ∧ (c == 45) = false := by
  have h2 := h
  simp only [letB, Bool.and_eq_true, decide_eq_true_eq] at h2
  refine ⟨?_, ?_, ?_, ?_⟩
  · cases hb : blankB c with
    | false => rfl
    | true => rw [(brk_let (by rw [hb]; rfl)).1] at h; cases h
  · cases hb : parenB c with
    | false => rfl
    | true => rw [(brk_let (by rw [hb, Bool.or_true])).1] at h; cases h
  · simp only [dig, Bool.and_eq_false_iff, decide_eq_false_iff_not]; omega
  · cases hc : c == 45 with
    | false => rfl
    | true =>
      simp only [beq_iff_eq] at hc
      subst hc
      exact absurd h2.1 (by decide)
theorem all_take {p : UInt8 → Bool} : ∀ {l : List UInt8}, l.all p = true → l.takeWhile p = l
  | [], _ => rfl
  | c :: r, h => by
    rw [List.all_cons, Bool.and_eq_true] at h
    rw [List.takeWhile_cons_of_pos h.1, all_take h.2]
theorem scans_word {w : List UInt8} (h : w.all letB = true) (h0 : 1 ≤ w.length) : Scans w [(w, false, 0)] := by
  cases w with
  | nil => simp at h0
  | cons c u =>
    rw [List.all_cons, Bool.and_eq_true] at h
    obtain ⟨h1, h2, h3, h4⟩ := let_plain h.1
    refine scans_tok ?_
    unfold bit
    rw [h1, h2, h.1, all_take h.2]
    rfl
theorem dig_plain {c : UInt8} (h : (dig c || c == 45) = true) : blankB c = false ∧ parenB c = false ∧ letB c = false := by
  have hn : blankB c = false ∧ parenB c = false := by
    constructor
    · cases hb : blankB c with
      | false => rfl
      | true =>
        simp only [blankB, Bool.or_eq_true, beq_iff_eq] at hb
        rcases hb with ((rfl | rfl) | rfl) | rfl <;> revert h <;> decide
    · cases hb : parenB c with
      | false => rfl
      | true =>
        simp only [parenB, Bool.or_eq_true, beq_iff_eq] at hb
        rcases hb with rfl | rfl <;> revert h <;> decide
  refine ⟨hn.1, hn.2, ?_⟩
  cases hl : letB c with
  | false => rfl
  | true =>
    have := let_plain hl
    rw [this.2.2.1, this.2.2.2] at h
    cases h
theorem itoa_form (n : Int) : ∃ c u, itoa n = c :: u ∧ (dig c || c == 45) = true ∧ u.all dig = true := by
  unfold itoa
  split
  · exact ⟨45, _, rfl, by decide, decDigits_digs _⟩
  · cases h : decDigits n.toNat with
    | nil => exact absurd h (decDigits_ne _)
    | cons c u =>
      have hd := decDigits_digs n.toNat
      rw [h, List.all_cons, Bool.and_eq_true] at hd
      exact ⟨c, u, rfl, by rw [hd.1]; rfl, hd.2⟩
theorem scans_num {n : Int} (h0 : -9223372036854775808 ≤ n) (h1 : n ≤ 9223372036854775807) : Scans (itoa n) [(itoa n, true, n)] := by
  obtain ⟨c, u, he, hc, hu⟩ := itoa_form n
  have hL := longOf_itoa n h0 h1
  rw [he] at hL ⊢
  obtain ⟨e1, e2, e3⟩ := dig_plain hc
  refine scans_tok ?_
  unfold bit
  rw [e1, e2, e3, hc, all_take hu, hL]
  rfl
/-- The tokens of the whole. -/
theorem scans_scan {T : List UInt8} {K : List Tk} (h : Scans T K) : ∃ us, scanOf T = .ok us ∧ us.map tri = K := by
  obtain ⟨us, h1, h2⟩ := h T.length 0 [] rfl (by simp)
  refine ⟨us, ?_, h1⟩
  have := h2 []
  rw [List.append_nil, putT_nil, List.nil_append] at this
  unfold scanOf
  rw [this]
  have e : toks T.length (0 + T.length) [] = .ok [] := by cases T.length <;> rfl
  rw [e]
  show Except.ok (us ++ []) = _
  rw [List.append_nil]
/-- What has tokens has them with more behind it, too. -/
theorem toks_scans : ∀ (f pos : Nat) (l : List UInt8) (ts : List Tok), toks f pos l = .ok ts → l.length ≤ f → ∀ (g : Nat) (q : Nat) (rest : List UInt8), brk rest = true → (l ++ rest).length ≤ g →
    ∃ us : List Tok, us.map tri = ts.map tri ∧ ∀ acc, putT acc (toks g q (l ++ rest)) = putT (acc ++ us) (toks g (q + l.length) rest)
  | f, pos, [], ts, h, _ => by
    intro g q rest _ _
    have h2 : ts = [] := by
      cases f <;> (simp only [toks] at h; injection h with h; exact h.symm)
    subst h2
    exact ⟨[], rfl, fun acc => by simp⟩
  | 0, _, _ :: _, _, h, _ => by simp only [toks] at h; cases h
  | f + 1, pos, c :: r, ts, h, hf => by
    intro g q rest hr hg
    simp only [List.length_cons] at hf
    rw [List.cons_append] at hg ⊢
    simp only [toks] at h
    have hbb := bit_brk hr c r
    cases hb : bit c r with
    | bad => rw [hb] at h; cases h
    | skip =>
      rw [hb] at h hbb
      obtain ⟨us, h1, h2⟩ := toks_scans f _ r ts h (by omega) g (q + 1) rest hr (by simp only [List.length_cons] at hg; omega)
      refine ⟨us, h1, fun acc => ?_⟩
      rw [toks_skip hbb hg, h2, List.length_cons, Nat.add_assoc, Nat.add_comm 1]
    | tok t b v =>
      rw [hb] at h hbb
      simp only at h
      obtain ⟨u, s, rfl, rfl, _⟩ := bit_tok hb
      have hd : (c :: (u ++ s)).drop (c :: u).length = s := by rw [← List.cons_append, List.drop_left]
      rw [hd] at h
      cases hx : toks f (pos + (c :: u).length) s with
      | error e => rw [hx] at h; cases h
      | ok l =>
        rw [hx] at h
        injection h with h
        subst h
        simp only [List.length_append] at hf
        obtain ⟨us, h1, h2⟩ := toks_scans f _ s l hx (by omega) g (q + (c :: u).length) rest hr (by simp only [List.length_cons, List.length_append] at hg ⊢; omega)
        refine ⟨⟨q, c :: u, b, v⟩ :: us, by simp only [List.map_cons, h1]; rfl, fun acc => ?_⟩
        have hd2 : (c :: (u ++ s ++ rest)).drop (c :: u).length = s ++ rest := by rw [List.append_assoc, ← List.cons_append, List.drop_left]
        rw [putT_tok acc hbb hg, hd2, h2, List.append_assoc]
        simp only [List.singleton_append, List.length_cons, List.length_append]
        congr 2
        omega
theorem scan_scans {l : List UInt8} {ts : List Tok} (h : scanOf l = .ok ts) : Scans l (ts.map tri) := fun f pos rest hr hl =>
  toks_scans _ _ l ts h (Nat.le_refl _) f pos rest hr hl
end E
end Go.Proofs.YthbkcadiejfgaacGreatDoor

/- Plain mathematics of printing, second part: a program's text and its tokens; they are read as the program that it was. -/
namespace Go.Proofs.YthbkcadiejfgaacGreatDoor
set_option maxRecDepth 20000
set_option maxHeartbeats 4000000
namespace E
open Go.Lib

def nameV (vs : List VarT) (v : Nat) : List UInt8 := (vs.getD v (⟨#[]⟩, 0)).1.data.toList
def opn : Tk := ([40], false, 0)
def cls : Tk := ([41], false, 0)
def wrd (w : List UInt8) : Tk := (w, false, 0)
def nmb (n : Int) : Tk := (itoa n, true, n)

mutual
def printE (vs : List VarT) : ET → List UInt8
  | .mk op v n l => 40 :: (wordT op.toNat ++ ((if op = 1 then 32 :: itoa n else []) ++ ((if op = 2 ∨ op = 3 then 32 :: nameV vs v.toNat else []) ++ (printEs vs l ++ [41]))))
def printEs (vs : List VarT) : List ET → List UInt8
  | [] => []
  | t :: r => 32 :: (printE vs t ++ printEs vs r)
end
mutual
def tokE (vs : List VarT) : ET → List Tk
  | .mk op v n l => opn :: wrd (wordT op.toNat) :: ((if op = 1 then [nmb n] else []) ++ ((if op = 2 ∨ op = 3 then [wrd (nameV vs v.toNat)] else []) ++ (tokEs vs l ++ [cls])))
def tokEs (vs : List VarT) : List ET → List Tk
  | [] => []
  | t :: r => tokE vs t ++ tokEs vs r
end
mutual
def printS (vs : List VarT) : ST → List UInt8
  | .mk op v e f b o => 40 :: (verbT op.toNat ++ ((if needV op then 32 :: nameV vs v.toNat else []) ++ ((if needE op then 32 :: printE vs e else []) ++ ((if needF op then 32 :: printE vs f else []) ++
      ((if needB op then 32 :: 40 :: (printSs vs false b ++ [41]) else []) ++ ((if needO op then 32 :: 40 :: (printSs vs false o ++ [41]) else []) ++ [41]))))))
def printSs (vs : List VarT) : Bool → List ST → List UInt8
  | _, [] => []
  | c, t :: r => (if c then [32] else []) ++ (printS vs t ++ printSs vs true r)
end
mutual
def tokS (vs : List VarT) : ST → List Tk
  | .mk op v e f b o => opn :: wrd (verbT op.toNat) :: ((if needV op then [wrd (nameV vs v.toNat)] else []) ++ ((if needE op then tokE vs e else []) ++ ((if needF op then tokE vs f else []) ++
      ((if needB op then opn :: (tokSs vs b ++ [cls]) else []) ++ ((if needO op then opn :: (tokSs vs o ++ [cls]) else []) ++ [cls])))))
def tokSs (vs : List VarT) : List ST → List Tk
  | [] => []
  | t :: r => tokS vs t ++ tokSs vs r
end
/-- Statements a line each. -/
def printB (vs : List VarT) : List ST → List UInt8
  | [] => []
  | t :: r => printS vs t ++ 10 :: printB vs r
def printV : List VarT → List UInt8
  | [] => []
  | x :: r => letT ++ 32 :: (x.1.data.toList ++ 32 :: (itoa x.2 ++ 10 :: printV r))
def tokV : List VarT → List Tk
  | [] => []
  | x :: r => wrd letT :: wrd x.1.data.toList :: nmb x.2 :: tokV r

/-! ### Numbers of 64 bits -/
def in64 (n : Int) : Prop := -9223372036854775808 ≤ n ∧ n ≤ 9223372036854775807
mutual
def longE : ET → Prop
  | .mk _ _ n l => in64 n ∧ longEs l
def longEs : List ET → Prop
  | [] => True
  | t :: r => longE t ∧ longEs r
end
mutual
def longSt : ST → Prop
  | .mk _ _ e f b o => longE e ∧ longE f ∧ longSs b ∧ longSs o
def longSs : List ST → Prop
  | [] => True
  | t :: r => longSt t ∧ longSs r
end

/-! ### What a check tells -/
theorem chkE_inv {nv : Nat} {op v n : Int} {l : List ET} {d k k' : Nat} (h : chkE nv (.mk op v n l) d k = .ok k') : d ≤ 12 ∧ ownE nv op v n l.length = 0 ∧ ∃ k1, chkEs nv l (d + 1) k1 = .ok k' := by
  simp only [chkE] at h
  obtain ⟨k1, h1, h2⟩ := nextK_ok h
  split at h2
  · cases h2
  · rename_i h3
    exact ⟨(headK_ok h1).2.1, by simpa using h3, k1, h2⟩
theorem chkEs_inv {nv : Nat} {t : ET} {r : List ET} {d k k' : Nat} (h : chkEs nv (t :: r) d k = .ok k') : (∃ k1, chkE nv t d k = .ok k1) ∧ ∃ k1, chkEs nv r d k1 = .ok k' := by
  simp only [chkEs] at h
  obtain ⟨k1, h1, h2⟩ := nextK_ok h
  exact ⟨⟨k1, h1⟩, k1, h2⟩
theorem chkS_inv {nv : Nat} {op v : Int} {e f : ET} {b o : List ST} {d k k' : Nat} (h : chkS nv (.mk op v e f b o) d k = .ok k') : d ≤ 12 ∧ ownS nv op v e f b.length o.length = 0 ∧
    (needE op = true → ∃ k1 k2, chkE nv e (d + 1) k1 = .ok k2) ∧ (needF op = true → ∃ k1 k2, chkE nv f (d + 1) k1 = .ok k2) ∧ (∃ k1 k2, chkSs nv b (d + 1) k1 = .ok k2) ∧ ∃ k1 k2, chkSs nv o (d + 1) k1 = .ok k2 := by
  simp only [chkS] at h
  obtain ⟨k1, h1, h2⟩ := nextK_ok h
  split at h2
  · cases h2
  · rename_i h3
    obtain ⟨k2, h4, h5⟩ := nextK_ok h2
    obtain ⟨k3, h6, h7⟩ := nextK_ok h5
    obtain ⟨k4, h8, h9⟩ := nextK_ok h7
    refine ⟨(headK_ok h1).2.1, by simpa using h3, fun he => ⟨k1, k2, ?_⟩, fun hf => ⟨k2, k3, ?_⟩, ⟨_, _, h8⟩, _, _, h9⟩
    · rw [if_pos he] at h4; exact h4
    · rw [if_pos hf] at h6; exact h6
theorem chkSs_inv {nv : Nat} {t : ST} {r : List ST} {d k k' : Nat} (h : chkSs nv (t :: r) d k = .ok k') : (∃ k1, chkS nv t d k = .ok k1) ∧ ∃ k1, chkSs nv r d k1 = .ok k' := by
  simp only [chkSs] at h
  obtain ⟨k1, h1, h2⟩ := nextK_ok h
  exact ⟨⟨k1, h1⟩, k1, h2⟩
theorem varK_in {nv : Nat} {v : Int} (h : varK nv v true = 0) : 0 ≤ v ∧ v.toNat < nv := by
  unfold varK at h
  rw [if_pos rfl] at h
  split at h
  · cases h
  · omega
theorem varK_no {nv : Nat} {v : Int} (h : varK nv v false = 0) : v = 0 := by
  unfold varK at h
  rw [if_neg (by decide)] at h
  split at h
  · cases h
  · omega
theorem ownE_inv {nv : Nat} {op v n : Int} {len : Nat} (h : ownE nv op v n len = 0) : 1 ≤ op ∧ op ≤ 8 ∧ partsOf op = (len : Int) ∧ (op ≠ 1 → n = 0) ∧ (op = 2 ∨ op = 3 → 0 ≤ v ∧ v.toNat < nv) ∧ (¬ (op = 2 ∨ op = 3) → v = 0) := by
  unfold ownE at h
  split at h
  · cases h
  · rename_i h1
    split at h
    · cases h
    · rename_i h2
      split at h
      · cases h
      · rename_i h3
        have hop : 1 ≤ op ∧ op ≤ 8 := by
          unfold partsOf at h1
          split at h1
          · omega
          · split at h1
            · omega
            · split at h1 <;> omega
        refine ⟨hop.1, hop.2, by simpa using h2, fun h4 => ?_, fun h4 => ?_, fun h4 => ?_⟩
        · by_cases hn : n = 0
          · exact hn
          · exact absurd ⟨h4, hn⟩ h3
        · have e : (op == 2 || op == 3) = true := by simpa using h4
          rw [e] at h
          exact varK_in h
        · have e : (op == 2 || op == 3) = false := by
            cases hb : (op == 2 || op == 3) with
            | false => rfl
            | true => exact absurd (by simpa using hb) h4
          rw [e] at h
          exact varK_no h
theorem zeroT_eq {t : ET} (h : zeroE t = true) : t = zeroT := by
  obtain ⟨op, v, n, l⟩ := t
  simp only [zeroE, Bool.and_eq_true, beq_iff_eq, List.isEmpty_iff] at h
  obtain ⟨⟨⟨rfl, rfl⟩, rfl⟩, rfl⟩ := h
  rfl
theorem ownS_inv {nv : Nat} {op v : Int} {e f : ET} {lb lo : Nat} (h : ownS nv op v e f lb lo = 0) : 1 ≤ op ∧ op ≤ 7 ∧ (needE op = false → e = zeroT) ∧ (needF op = false → f = zeroT) ∧ (needB op = false → lb = 0) ∧ (needO op = false → lo = 0) ∧
    (needV op = true → 0 ≤ v ∧ v.toNat < nv) ∧ (needV op = false → v = 0) := by
  unfold ownS at h
  split at h
  · cases h
  · rename_i h1
    split at h
    · cases h
    · rename_i h2
      split at h
      · cases h
      · rename_i h3
        simp only [Bool.or_eq_true, Bool.and_eq_true, Bool.not_eq_true', not_or, not_and, Bool.not_eq_false] at h2
        simp only [Bool.or_eq_true, Bool.and_eq_true, Bool.not_eq_true', not_or, not_and, decide_eq_true_eq] at h3
        refine ⟨by omega, by omega, fun h4 => zeroT_eq (h2.1 h4), fun h4 => zeroT_eq (h2.2 h4), fun h4 => by have := h3.1 h4; omega, fun h4 => by have := h3.2 h4; omega, fun h4 => ?_, fun h4 => ?_⟩
        · rw [h4] at h; exact varK_in h
        · rw [h4] at h; exact varK_no h

/-! ### Names -/
structure NamesOk (vs : List VarT) : Prop where
  name : ∀ v, v < vs.length → nameB (nameV vs v) = true
  find : ∀ v, v < vs.length → findV vs (nameV vs v) = some v
theorem nameB_let {l : List UInt8} (h : nameB l = true) : l.all letB = true ∧ 1 ≤ l.length := by
  simp only [nameB, Bool.and_eq_true, decide_eq_true_eq] at h
  exact ⟨h.1.1, h.1.2⟩
theorem nameOk_B {s : ByteArray} (h : nameOk s = true) : nameB s.data.toList = true := by
  unfold nameOk at h
  unfold nameB
  rw [size_toList]
  exact h
/-- No name of done comes again. -/
theorem chkV_names : ∀ {vs : List VarT} {done : List ByteArray} {n : Int}, chkV done n vs = 0 → (∀ x ∈ vs, nameB x.1.data.toList = true) ∧ (∀ x ∈ vs, ∀ s ∈ done, s.data.toList ≠ x.1.data.toList) ∧ vs.Pairwise (fun x y => x.1.data.toList ≠ y.1.data.toList)
  | [], _, _, _ => ⟨fun x hx => by simp at hx, fun x hx => by simp at hx, List.Pairwise.nil⟩
  | x :: r, done, n, h => by
    unfold chkV at h
    split at h
    · cases h
    · rename_i h1
      split at h
      · cases h
      · rename_i h2
        split at h
        · cases h
        · obtain ⟨e1, e2, e3⟩ := chkV_names h
          have hx : ∀ s ∈ done, s.data.toList ≠ x.1.data.toList := by
            intro s hs he
            apply h2
            rw [List.any_eq_true]
            refine ⟨s, hs, ?_⟩
            have : s.toList = x.1.toList := by
              rw [← str_data s, ← str_data x.1, str_toList, str_toList]; exact he
            rw [this]
            exact beq_self_eq_true _
          refine ⟨?_, ?_, List.Pairwise.cons ?_ e3⟩
          · intro y hy
            rcases List.mem_cons.1 hy with rfl | hy
            · exact nameOk_B (by simpa using h1)
            · exact e1 y hy
          · intro y hy s hs
            rcases List.mem_cons.1 hy with rfl | hy
            · exact hx s hs
            · exact e2 y hy s (List.mem_append_left _ hs)
          · intro y hy
            exact e2 y hy x.1 (by simp)
theorem findV_pair : ∀ {vs : List VarT}, vs.Pairwise (fun x y => x.1.data.toList ≠ y.1.data.toList) → ∀ v (hv : v < vs.length), findV vs (vs[v].1.data.toList) = some v
  | [], _, v, hv => by simp at hv
  | x :: r, h, 0, _ => by
    unfold findV
    simp
  | x :: r, h, v + 1, hv => by
    have hp := List.pairwise_cons.1 h
    have hv' : v < r.length := by simpa using hv
    unfold findV
    rw [if_neg (by simpa using hp.1 r[v] (List.getElem_mem hv'))]
    have := findV_pair hp.2 v hv'
    simp only [List.getElem_cons_succ, this, Option.map_some]
theorem namesOk {vs : List VarT} (h : chkV [] 0 vs = 0) : NamesOk vs := by
  obtain ⟨h1, _, h3⟩ := chkV_names h
  have e : ∀ v (hv : v < vs.length), nameV vs v = vs[v].1.data.toList := fun v hv => by
    unfold nameV
    rw [List.getD_eq_getElem?_getD, List.getElem?_eq_getElem hv]
    rfl
  refine ⟨fun v hv => ?_, fun v hv => ?_⟩
  · rw [e v hv]; exact h1 _ (List.getElem_mem hv)
  · rw [e v hv]; exact findV_pair h3 v hv

/-! ### The text's tokens -/
def Sc (T : List UInt8) (K : List Tk) : Prop := Scans T K ∧ brk T = true
theorem sc_par {c : UInt8} {T : List UInt8} {K : List Tk} (hc : parenB c = true) (h : Scans T K) : Sc (c :: T) (([c], false, 0) :: K) := by
  refine ⟨?_, by show (blankB c || parenB c) = true; rw [hc, Bool.or_true]⟩
  intro f pos rest hr hl
  have hb : blankB c = false := by
    simp only [parenB, Bool.or_eq_true, beq_iff_eq] at hc
    rcases hc with rfl | rfl <;> decide
  have hbit : bit c (T ++ rest) = .tok [c] false 0 := by
    unfold bit
    rw [hb, hc]
    rfl
  rw [List.cons_append] at hl ⊢
  obtain ⟨us, h1, h2⟩ := h f (pos + 1) rest hr (by simp only [List.length_cons] at hl; omega)
  refine ⟨⟨pos, [c], false, 0⟩ :: us, by simp only [List.map_cons, h1]; rfl, fun acc => ?_⟩
  rw [putT_tok acc hbit hl]
  show putT _ (toks f (pos + 1) (T ++ rest)) = _
  rw [h2, List.append_assoc]
  simp only [List.singleton_append, List.length_cons]
  congr 2
  omega
theorem sc_bl {c : UInt8} {T : List UInt8} {K : List Tk} (hc : blankB c = true) (h : Scans T K) : Sc (c :: T) K := by
  refine ⟨?_, by show (blankB c || parenB c) = true; rw [hc, Bool.true_or]⟩
  intro f pos rest hr hl
  rw [List.cons_append] at hl ⊢
  obtain ⟨us, h1, h2⟩ := h f (pos + 1) rest hr (by simp only [List.length_cons] at hl; omega)
  refine ⟨us, h1, fun acc => ?_⟩
  rw [toks_skip (bit_blank c _ hc) hl, h2, List.length_cons]
  congr 2
  omega
theorem sc_word {w T : List UInt8} {K : List Tk} (h1 : w.all letB = true) (h0 : 1 ≤ w.length) (h : Sc T K) : Scans (w ++ T) (wrd w :: K) := scans_app (scans_word h1 h0) h.1 (.inl h.2)
theorem sc_num {n : Int} {T : List UInt8} {K : List Tk} (hn : in64 n) (h : Sc T K) : Scans (itoa n ++ T) (nmb n :: K) := scans_app (scans_num hn.1 hn.2) h.1 (.inl h.2)
theorem sc_if {b : Prop} [Decidable b] {T X : List UInt8} {K Y : List Tk} (h : Sc T K) (hx : b → Sc (X ++ T) (Y ++ K)) : Sc ((if b then X else []) ++ T) ((if b then Y else []) ++ K) := by
  split
  · rename_i hb; exact hx hb
  · exact h
theorem word_ok {op : Int} (h1 : 1 ≤ op) (h2 : op ≤ 8) : (wordT op.toNat).all letB = true ∧ 1 ≤ (wordT op.toNat).length := by
  have : op = 1 ∨ op = 2 ∨ op = 3 ∨ op = 4 ∨ op = 5 ∨ op = 6 ∨ op = 7 ∨ op = 8 := by omega
  rcases this with rfl | rfl | rfl | rfl | rfl | rfl | rfl | rfl <;> decide
theorem verb_ok {op : Int} (h1 : 1 ≤ op) (h2 : op ≤ 7) : (verbT op.toNat).all letB = true ∧ 1 ≤ (verbT op.toNat).length := by
  have : op = 1 ∨ op = 2 ∨ op = 3 ∨ op = 4 ∨ op = 5 ∨ op = 6 ∨ op = 7 := by omega
  rcases this with rfl | rfl | rfl | rfl | rfl | rfl | rfl <;> decide

mutual
theorem sc_E {vs : List VarT} (hn : NamesOk vs) : ∀ (t : ET) (d k k' : Nat) (T : List UInt8) (K : List Tk), chkE vs.length t d k = .ok k' → longE t → Scans T K → Sc (printE vs t ++ T) (tokE vs t ++ K)
  | .mk op v n l, d, k, k', T, K, h, hl, hT => by
    obtain ⟨_, hown, k1, hs⟩ := chkE_inv h
    obtain ⟨h1, h2, h3, h4, h5, h6⟩ := ownE_inv hown
    have hw := word_ok h1 h2
    simp only [longE] at hl
    have e1 : printE vs (.mk op v n l) ++ T = 40 :: (wordT op.toNat ++ ((if op = 1 then 32 :: itoa n else []) ++ ((if op = 2 ∨ op = 3 then 32 :: nameV vs v.toNat else []) ++ (printEs vs l ++ (41 :: T))))) := by
      simp [printE, List.append_assoc]
    have e2 : tokE vs (.mk op v n l) ++ K = opn :: wrd (wordT op.toNat) :: ((if op = 1 then [nmb n] else []) ++ ((if op = 2 ∨ op = 3 then [wrd (nameV vs v.toNat)] else []) ++ (tokEs vs l ++ (cls :: K)))) := by
      simp [tokE, List.append_assoc]
    rw [e1, e2]
    have s1 : Sc (41 :: T) (cls :: K) := sc_par (by decide) hT
    have s2 := sc_Es hn l (d + 1) k1 k' _ _ hs hl.2 s1
    refine sc_par (by decide) (sc_word hw.1 hw.2 (sc_if (sc_if s2 fun hv => ?_) fun _ => ?_))
    · have := nameB_let (hn.name v.toNat (h5 hv).2)
      exact sc_bl (by decide) (sc_word this.1 this.2 s2)
    · exact sc_bl (by decide) (sc_num hl.1 (sc_if s2 fun hv => by
        have := nameB_let (hn.name v.toNat (h5 hv).2)
        exact sc_bl (by decide) (sc_word this.1 this.2 s2)))
theorem sc_Es {vs : List VarT} (hn : NamesOk vs) : ∀ (l : List ET) (d k k' : Nat) (T : List UInt8) (K : List Tk), chkEs vs.length l d k = .ok k' → longEs l → Sc T K → Sc (printEs vs l ++ T) (tokEs vs l ++ K)
  | [], _, _, _, _, _, _, _, hT => by
    simp only [printEs, tokEs, List.nil_append]
    exact hT
  | t :: r, d, k, k', T, K, h, hl, hT => by
    obtain ⟨⟨k1, h1⟩, k2, h2⟩ := chkEs_inv h
    simp only [longEs] at hl
    have s1 := sc_Es hn r d k2 k' T K h2 hl.2 hT
    have s2 := sc_E hn t d k k1 _ _ h1 hl.1 s1.1
    simp only [printEs, tokEs, List.cons_append, List.append_assoc]
    exact sc_bl (by decide) s2.1
end
mutual
theorem sc_S {vs : List VarT} (hn : NamesOk vs) : ∀ (t : ST) (d k k' : Nat) (T : List UInt8) (K : List Tk), chkS vs.length t d k = .ok k' → longSt t → Scans T K → Sc (printS vs t ++ T) (tokS vs t ++ K)
  | .mk op v e f b o, d, k, k', T, K, h, hl, hT => by
    obtain ⟨_, hown, he, hf, ⟨kb, kb', hb⟩, ko, ko', ho⟩ := chkS_inv h
    obtain ⟨h1, h2, h3, h4, h5, h6, h7, h8⟩ := ownS_inv hown
    have hw := verb_ok h1 h2
    simp only [longSt] at hl
    obtain ⟨le, lf, lb, lo⟩ := hl
    have e1 : printS vs (.mk op v e f b o) ++ T = 40 :: (verbT op.toNat ++ ((if needV op then 32 :: nameV vs v.toNat else []) ++ ((if needE op then 32 :: printE vs e else []) ++ ((if needF op then 32 :: printE vs f else []) ++
      ((if needB op then 32 :: 40 :: (printSs vs false b ++ [41]) else []) ++ ((if needO op then 32 :: 40 :: (printSs vs false o ++ [41]) else []) ++ (41 :: T))))))) := by
      simp [printS, List.append_assoc]
    have e2 : tokS vs (.mk op v e f b o) ++ K = opn :: wrd (verbT op.toNat) :: ((if needV op then [wrd (nameV vs v.toNat)] else []) ++ ((if needE op then tokE vs e else []) ++ ((if needF op then tokE vs f else []) ++
      ((if needB op then opn :: (tokSs vs b ++ [cls]) else []) ++ ((if needO op then opn :: (tokSs vs o ++ [cls]) else []) ++ (cls :: K)))))) := by
      simp [tokS, List.append_assoc]
    rw [e1, e2]
    have s1 : Sc (41 :: T) (cls :: K) := sc_par (by decide) hT
    have s2 := sc_if (b := needO op = true) s1 (X := 32 :: 40 :: (printSs vs false o ++ [41])) (Y := opn :: (tokSs vs o ++ [cls])) fun _ => by
      have := sc_Ss hn o (d + 1) ko ko' false _ _ ho lo (sc_par (c := 41) (by decide) s1.1)
      simp only [List.cons_append, List.append_assoc, List.nil_append]
      exact sc_bl (by decide) (sc_par (by decide) this.1).1
    have s3 := sc_if (b := needB op = true) s2 (X := 32 :: 40 :: (printSs vs false b ++ [41])) (Y := opn :: (tokSs vs b ++ [cls])) fun _ => by
      have := sc_Ss hn b (d + 1) kb kb' false _ _ hb lb (sc_par (c := 41) (by decide) s2.1)
      simp only [List.cons_append, List.append_assoc, List.nil_append] at this ⊢
      exact sc_bl (by decide) (sc_par (by decide) this.1).1
    have s4 := sc_if (b := needF op = true) s3 (X := 32 :: printE vs f) (Y := tokE vs f) fun hf' => by
      obtain ⟨a, b', hc⟩ := hf hf'
      exact sc_bl (by decide) (sc_E hn f (d + 1) a b' _ _ hc lf s3.1).1
    have s5 := sc_if (b := needE op = true) s4 (X := 32 :: printE vs e) (Y := tokE vs e) fun he' => by
      obtain ⟨a, b', hc⟩ := he he'
      exact sc_bl (by decide) (sc_E hn e (d + 1) a b' _ _ hc le s4.1).1
    have s6 := sc_if (b := needV op = true) s5 (X := 32 :: nameV vs v.toNat) (Y := [wrd (nameV vs v.toNat)]) fun hv => by
      have := nameB_let (hn.name v.toNat (h7 hv).2)
      exact sc_bl (by decide) (sc_word this.1 this.2 s5)
    exact sc_par (by decide) (sc_word hw.1 hw.2 s6)
theorem sc_Ss {vs : List VarT} (hn : NamesOk vs) : ∀ (l : List ST) (d k k' : Nat) (c : Bool) (T : List UInt8) (K : List Tk), chkSs vs.length l d k = .ok k' → longSs l → Sc T K → Sc (printSs vs c l ++ T) (tokSs vs l ++ K)
  | [], _, _, _, _, _, _, _, _, hT => by
    simp only [printSs, tokSs, List.nil_append]
    exact hT
  | t :: r, d, k, k', c, T, K, h, hl, hT => by
    obtain ⟨⟨k1, h1⟩, k2, h2⟩ := chkSs_inv h
    simp only [longSs] at hl
    have s1 := sc_Ss hn r d k2 k' true T K h2 hl.2 hT
    have s2 := sc_S hn t d k k1 _ _ h1 hl.1 s1.1
    simp only [printSs, tokSs, List.append_assoc]
    cases c with
    | true => exact sc_bl (by decide) s2.1
    | false => exact s2
end
theorem sc_B {vs : List VarT} (hn : NamesOk vs) : ∀ (l : List ST) (d k k' : Nat), chkSs vs.length l d k = .ok k' → longSs l → Sc (printB vs l) (tokSs vs l)
  | [], _, _, _, _, _ => ⟨scans_nil, rfl⟩
  | t :: r, d, k, k', h, hl => by
    obtain ⟨⟨k1, h1⟩, k2, h2⟩ := chkSs_inv h
    simp only [longSs] at hl
    have s1 := sc_B hn r d k2 k' h2 hl.2
    exact sc_S hn t d k k1 _ _ h1 hl.1 (sc_bl (c := 10) (by decide) s1.1).1
end E
end Go.Proofs.YthbkcadiejfgaacGreatDoor

/- Plain mathematics of printing, third part: the tokens of what was printed are read as what it was; statements behind statements. -/
namespace Go.Proofs.YthbkcadiejfgaacGreatDoor
set_option maxRecDepth 20000
set_option maxHeartbeats 4000000
namespace E
open Go.Lib

/-- From i on stand tokens as in K. -/
def At (ts : List Tok) (i : Nat) (K : List Tk) : Prop := ∀ (j : Nat) (x : Tk), K[j]? = some x → ∃ t, ts[i + j]? = some t ∧ tri t = x
def One (ts : List Tok) (i : Nat) (x : Tk) : Prop := ∃ t, ts[i]? = some t ∧ tri t = x
section
variable {ts : List Tok} {fin : Nat}
theorem At.cons {i : Nat} {x : Tk} {K : List Tk} (h : At ts i (x :: K)) : One ts i x ∧ At ts (i + 1) K := by
  refine ⟨h 0 x rfl, fun j y hy => ?_⟩
  have := h (j + 1) y (by simpa using hy)
  rwa [Nat.add_assoc, Nat.add_comm 1]
theorem At.app {i : Nat} {K K' : List Tk} (h : At ts i (K ++ K')) : At ts i K ∧ At ts (i + K.length) K' := by
  refine ⟨fun j y hy => h j y ?_, fun j y hy => ?_⟩
  · rw [List.getElem?_append_left (List.getElem?_eq_some_iff.1 hy).1]; exact hy
  · have := h (K.length + j) y (by rw [List.getElem?_append_right (Nat.le_add_right _ _), Nat.add_sub_cancel_left]; exact hy)
    rwa [Nat.add_assoc]
theorem At.len {i : Nat} {K : List Tk} (h : At ts i K) (hi : i ≤ ts.length) : i + K.length ≤ ts.length := by
  rcases Nat.eq_zero_or_pos K.length with h0 | h0
  · omega
  · obtain ⟨t, ht, _⟩ := h (K.length - 1) K[K.length - 1] (List.getElem?_eq_getElem (by omega))
    have := (List.getElem?_eq_some_iff.1 ht).1
    omega
theorem one_is {i : Nat} {w : List UInt8} (h : One ts i (wrd w)) (s : List UInt8) : isT ts i s = (w == s) := by
  obtain ⟨t, h1, h2⟩ := h
  unfold tri wrd at h2
  injection h2 with e1 e2
  injection e2 with e2 e3
  unfold isT
  rw [h1]
  simp only [e1, e2, Bool.not_false, Bool.true_and]
theorem one_must {i : Nat} {w : List UInt8} (h : One ts i (wrd w)) : mustP ts fin w i = .ok (i + 1) := by
  unfold mustP
  rw [one_is h, if_pos (beq_self_eq_true w)]
theorem one_num {i : Nat} {n : Int} (h : One ts i (nmb n)) : numP ts fin i = .ok (n, i + 1) := by
  obtain ⟨t, h1, h2⟩ := h
  unfold tri nmb at h2
  injection h2 with e1 e2
  injection e2 with e2 e3
  unfold numP
  rw [h1]
  simp only [e2, e3, if_true]
theorem one_name {i : Nat} {w : List UInt8} (h : One ts i (wrd w)) (hw : nameB w = true) : nameP ts fin i = .ok (w, i + 1) := by
  obtain ⟨t, h1, h2⟩ := h
  unfold tri wrd at h2
  injection h2 with e1 e2
  unfold nameP
  rw [h1]
  simp only [e1, hw, if_true]
theorem one_var {vs : List VarT} (hn : NamesOk vs) {i v : Nat} (hv : v < vs.length) (h : One ts i (wrd (nameV vs v))) : varP ts fin vs i = .ok (v, i + 1) := by
  unfold varP
  rw [one_name h (hn.name v hv)]
  show (match findV vs (nameV vs v) with | some k => _ | none => _) = _
  rw [hn.find v hv]
def pickF (g : Nat → Bool) : Nat → Nat → Option Nat
  | _, 0 => none
  | k, n + 1 => if g k then some k else pickF g (k + 1) n
theorem pickK_F {i : Nat} {of : Nat → List UInt8} {w : List UInt8} (h : One ts i (wrd w)) : ∀ (n k : Nat), pickK ts of i k n = pickF (fun j => w == of j) k n
  | 0, _ => rfl
  | n + 1, k => by
    unfold pickK pickF
    rw [one_is h, pickK_F h n]
theorem begin_word {i : Nat} {op : Int} (h1 : 1 ≤ op) (h2 : op ≤ 8) (ho : One ts i opn) (hw : One ts (i + 1) (wrd (wordT op.toNat))) : beginP ts fin wordT 8 i = .ok (op.toNat, i + 2) := by
  unfold beginP
  rw [one_must (w := [40]) ho]
  show (match pickK ts wordT (i + 1) 1 8 with | some k => _ | none => _) = _
  rw [pickK_F hw]
  have : op = 1 ∨ op = 2 ∨ op = 3 ∨ op = 4 ∨ op = 5 ∨ op = 6 ∨ op = 7 ∨ op = 8 := by omega
  rcases this with rfl | rfl | rfl | rfl | rfl | rfl | rfl | rfl <;> rfl
theorem begin_verb {i : Nat} {op : Int} (h1 : 1 ≤ op) (h2 : op ≤ 7) (ho : One ts i opn) (hw : One ts (i + 1) (wrd (verbT op.toNat))) : beginP ts fin verbT 7 i = .ok (op.toNat, i + 2) := by
  unfold beginP
  rw [one_must (w := [40]) ho]
  show (match pickK ts verbT (i + 1) 1 7 with | some k => _ | none => _) = _
  rw [pickK_F hw]
  have : op = 1 ∨ op = 2 ∨ op = 3 ∨ op = 4 ∨ op = 5 ∨ op = 6 ∨ op = 7 := by omega
  rcases this with rfl | rfl | rfl | rfl | rfl | rfl | rfl <;> rfl

mutual
theorem back_E {vs : List VarT} (hn : NamesOk vs) : ∀ (t : ET) (d k k' f i : Nat), chkE vs.length t d k = .ok k' → d + f = 13 → At ts i (tokE vs t) → exprP ts fin vs f i = .ok (t, i + (tokE vs t).length)
  | .mk op v n l, d, k, k', f, i, h, hdf, ha => by
    obtain ⟨hd, hown, k1, hs⟩ := chkE_inv h
    obtain ⟨h1, h2, h3, h4, h5, h6⟩ := ownE_inv hown
    obtain ⟨f, rfl⟩ : ∃ f', f = f' + 1 := ⟨f - 1, by omega⟩
    have hop : ((op.toNat : Nat) : Int) = op := by omega
    rw [tokE] at ha ⊢
    obtain ⟨a1, ha⟩ := ha.cons
    obtain ⟨a2, ha⟩ := ha.cons
    obtain ⟨a3, ha⟩ := ha.app
    obtain ⟨a4, ha⟩ := ha.app
    obtain ⟨a5, a6⟩ := ha.app
    have c1 : (op.toNat = 1) = (op = 1) := by rw [eq_iff_iff]; omega
    have c2 : (op.toNat = 2 ∨ op.toNat = 3) = (op = 2 ∨ op = 3) := by rw [eq_iff_iff]; omega
    unfold exprP
    rw [begin_word h1 h2 a1 a2]
    simp only [bnd, c1, c2]
    have e1 : (if op = 1 then numP ts fin (i + 2) else .ok (0, i + 2)) = .ok (n, i + 1 + 1 + (if op = 1 then [nmb n] else []).length) := by
      split
      · rename_i ho
        rw [if_pos ho] at a3
        exact one_num a3.cons.1
      · rename_i ho
        rw [h4 ho]
        rfl
    rw [e1]
    simp only
    have e2 : (if op = 2 ∨ op = 3 then varP ts fin vs (i + 1 + 1 + (if op = 1 then [nmb n] else []).length) else .ok (0, i + 1 + 1 + (if op = 1 then [nmb n] else []).length)) =
        .ok (v.toNat, i + 1 + 1 + (if op = 1 then [nmb n] else []).length + (if op = 2 ∨ op = 3 then [wrd (nameV vs v.toNat)] else []).length) := by
      split
      · rename_i ho
        rw [if_pos ho] at a4
        rw [one_var hn (h5 ho).2 a4.cons.1]
        rfl
      · rename_i ho
        rw [h6 ho]
        rfl
    rw [e2]
    simp only
    have hv : ((v.toNat : Nat) : Int) = v := by
      by_cases ho : op = 2 ∨ op = 3
      · have := (h5 ho).1; omega
      · rw [h6 ho]; rfl
    have hp : (partsOf ((op.toNat : Nat) : Int)).toNat = l.length := by rw [hop, h3]; rfl
    rw [hp, back_Es hn l (d + 1) k1 k' f _ hs (by omega) a5]
    simp only
    rw [one_must (w := [41]) a6.cons.1]
    simp only [hop, hv]
    congr 2
    simp only [List.length_cons, List.length_append, List.length_nil]
    omega
theorem back_Es {vs : List VarT} (hn : NamesOk vs) : ∀ (l : List ET) (d k k' f i : Nat), chkEs vs.length l d k = .ok k' → d + f = 13 → At ts i (tokEs vs l) → manyP (exprP ts fin vs f) l.length i = .ok (l, i + (tokEs vs l).length)
  | [], _, _, _, _, _, _, _, _ => rfl
  | t :: r, d, k, k', f, i, h, hdf, ha => by
    obtain ⟨⟨k1, h1⟩, k2, h2⟩ := chkEs_inv h
    rw [tokEs] at ha ⊢
    obtain ⟨a1, a2⟩ := ha.app
    rw [List.length_cons, manyP, back_E hn t d k k1 f i h1 hdf a1]
    simp only [bnd]
    rw [back_Es hn r d k2 k' f _ h2 hdf a2]
    simp only [List.length_append, Nat.add_assoc]
end

theorem isT_opn {j : Nat} (h : One ts j opn) : isT ts j [41] = false := by rw [one_is (w := [40]) h]; rfl
theorem tokS_head (vs : List VarT) (t : ST) : ∃ K, tokS vs t = opn :: K := by
  obtain ⟨op, v, e, f, b, o⟩ := t
  rw [tokS]
  exact ⟨_, rfl⟩
theorem tokSs_len (vs : List VarT) : ∀ (l : List ST), l.length ≤ (tokSs vs l).length
  | [] => Nat.zero_le _
  | t :: r => by
    have ih := tokSs_len vs r
    obtain ⟨K, hK⟩ := tokS_head vs t
    rw [tokSs, hK]
    simp only [List.length_cons, List.length_append]
    omega

mutual
theorem back_S {vs : List VarT} (hn : NamesOk vs) : ∀ (t : ST) (d k k' f i : Nat), chkS vs.length t d k = .ok k' → d + f = 13 → i ≤ ts.length → At ts i (tokS vs t) → stmtP ts fin vs f i = .ok (t, i + (tokS vs t).length)
  | .mk op v e g b o, d, k, k', f, i, h, hdf, hil, ha => by
    obtain ⟨hd, hown, he, hg, ⟨kb, kb', hb⟩, ko, ko', ho⟩ := chkS_inv h
    obtain ⟨h1, h2, h3, h4, h5, h6, h7, h8⟩ := ownS_inv hown
    obtain ⟨f, rfl⟩ : ∃ f', f = f' + 1 := ⟨f - 1, by omega⟩
    have hop : ((op.toNat : Nat) : Int) = op := by omega
    have hlen := ha.len hil
    rw [tokS] at ha hlen ⊢
    simp only [List.length_cons, List.length_append, List.length_nil] at hlen
    obtain ⟨a1, ha⟩ := ha.cons
    obtain ⟨a2, ha⟩ := ha.cons
    obtain ⟨a3, ha⟩ := ha.app
    obtain ⟨a4, ha⟩ := ha.app
    obtain ⟨a5, ha⟩ := ha.app
    obtain ⟨a6, ha⟩ := ha.app
    obtain ⟨a7, a8⟩ := ha.app
    unfold stmtP
    rw [begin_verb h1 h2 a1 a2]
    simp only [bnd, hop]
    generalize hi3 : i + 1 + 1 + (if needV op = true then [wrd (nameV vs v.toNat)] else []).length = i3 at *
    have e1 : (if needV op = true then varP ts fin vs (i + 2) else .ok (0, i + 2)) = .ok (v.toNat, i3) := by
      rw [← hi3]
      split
      · rename_i hq
        rw [if_pos hq] at a3
        rw [show i + 2 = i + 1 + 1 from rfl, one_var hn (h7 hq).2 a3.cons.1]
        rfl
      · rename_i hq
        rw [h8 (by simpa using hq)]
        rfl
    rw [e1]
    simp only
    generalize hi4 : i3 + (if needE op = true then tokE vs e else []).length = i4 at *
    have e2 : (if needE op = true then exprP ts fin vs f i3 else .ok (zeroT, i3)) = .ok (e, i4) := by
      rw [← hi4]
      split
      · rename_i hq
        rw [if_pos hq] at a4
        obtain ⟨x, y, hc⟩ := he hq
        exact back_E hn e (d + 1) x y f i3 hc (by omega) a4
      · rename_i hq
        rw [h3 (by simpa using hq)]
        rfl
    rw [e2]
    simp only
    generalize hi5 : i4 + (if needF op = true then tokE vs g else []).length = i5 at *
    have e3 : (if needF op = true then exprP ts fin vs f i4 else .ok (zeroT, i4)) = .ok (g, i5) := by
      rw [← hi5]
      split
      · rename_i hq
        rw [if_pos hq] at a5
        obtain ⟨x, y, hc⟩ := hg hq
        exact back_E hn g (d + 1) x y f i4 hc (by omega) a5
      · rename_i hq
        rw [h4 (by simpa using hq)]
        rfl
    rw [e3]
    simp only
    generalize hi6 : i5 + (if needB op = true then opn :: (tokSs vs b ++ [cls]) else []).length = i6 at *
    have e4 : (if needB op = true then listP ts fin (stmtP ts fin vs f) i5 else .ok ([], i5)) = .ok (b, i6) := by
      rw [← hi6]
      split
      · rename_i hq
        rw [if_pos hq] at a6
        exact back_L hn b (d + 1) kb kb' f i5 hb (by omega) a6
      · rename_i hq
        have : b = [] := List.eq_nil_of_length_eq_zero (h5 (by simpa using hq))
        rw [this]
        rfl
    rw [e4]
    simp only
    generalize hi7 : i6 + (if needO op = true then opn :: (tokSs vs o ++ [cls]) else []).length = i7 at *
    have e5 : (if needO op = true then listP ts fin (stmtP ts fin vs f) i6 else .ok ([], i6)) = .ok (o, i7) := by
      rw [← hi7]
      split
      · rename_i hq
        rw [if_pos hq] at a7
        exact back_L hn o (d + 1) ko ko' f i6 ho (by omega) a7
      · rename_i hq
        have : o = [] := List.eq_nil_of_length_eq_zero (h6 (by simpa using hq))
        rw [this]
        rfl
    rw [e5]
    simp only
    rw [one_must (w := [41]) a8.cons.1]
    have hv : ((v.toNat : Nat) : Int) = v := by
      cases hq : needV op with
      | true => have := (h7 hq).1; omega
      | false => rw [h8 hq]; rfl
    simp only [hv]
    congr 2
    simp only [List.length_cons, List.length_append, List.length_nil]
    omega
theorem back_L {vs : List VarT} (hn : NamesOk vs) : ∀ (l : List ST) (d k k' f i : Nat), chkSs vs.length l d k = .ok k' → d + f = 13 → At ts i (opn :: (tokSs vs l ++ [cls])) → listP ts fin (stmtP ts fin vs f) i = .ok (l, i + (opn :: (tokSs vs l ++ [cls])).length)
  | l, d, k, k', f, i, h, hdf, ha => by
    obtain ⟨a1, ha⟩ := ha.cons
    obtain ⟨a2, a3⟩ := ha.app
    obtain ⟨t3, h3, _⟩ := a3.cons.1
    have hlt := (List.getElem?_eq_some_iff.1 h3).1
    unfold listP
    rw [one_must (w := [40]) a1]
    simp only [bnd]
    have hl := tokSs_len vs l
    rw [back_Ss hn l d k k' f (i + 1) (fun j => isT ts j [41]) _ h hdf (by omega) a2 (fun j hj => isT_opn hj) (by rw [one_is (w := [41]) a3.cons.1]; rfl) (by omega)]
    simp only
    rw [one_must (w := [41]) a3.cons.1]
    simp only [List.length_cons, List.length_append, List.length_nil]
    congr 2
    omega
theorem back_Ss {vs : List VarT} (hn : NamesOk vs) : ∀ (l : List ST) (d k k' f i : Nat) (st : Nat → Bool) (m : Nat), chkSs vs.length l d k = .ok k' → d + f = 13 → i ≤ ts.length → At ts i (tokSs vs l) → (∀ j, One ts j opn → st j = false) → st (i + (tokSs vs l).length) = true → l.length < m →
    untilP st (stmtP ts fin vs f) m i = .ok (l, i + (tokSs vs l).length)
  | [], _, _, _, _, i, st, m, _, _, _, _, _, hst, hm => by
    obtain ⟨m, rfl⟩ : ∃ m', m = m' + 1 := ⟨m - 1, by simp at hm; omega⟩
    unfold untilP
    rw [if_pos (by simpa [tokSs] using hst)]
    rfl
  | t :: r, d, k, k', f, i, st, m, h, hdf, hil, ha, hop, hst, hm => by
    obtain ⟨⟨k1, h1⟩, k2, h2⟩ := chkSs_inv h
    simp only [List.length_cons] at hm
    obtain ⟨m, rfl⟩ : ∃ m', m = m' + 1 := ⟨m - 1, by omega⟩
    have hle := ha.len hil
    rw [tokSs] at ha hst hle ⊢
    simp only [List.length_append] at hle
    obtain ⟨a1, a2⟩ := ha.app
    obtain ⟨K, hK⟩ := tokS_head vs t
    have a0 : One ts i opn := by rw [hK] at a1; exact a1.cons.1
    unfold untilP
    rw [hop i a0, if_neg (by decide), back_S hn t d k k1 f i h1 hdf hil a1]
    simp only [bnd]
    rw [back_Ss hn r d k2 k' f _ st m h2 hdf (by omega) a2 hop (by rw [List.length_append] at hst; rw [Nat.add_assoc]; exact hst) (by omega)]
    simp only [List.length_append, Nat.add_assoc]
end
end
end E
end Go.Proofs.YthbkcadiejfgaacGreatDoor

/- Plain mathematics of tokens: what a text's scan tells. -/
namespace Go.Proofs.YthbkcadiejfgaacGreatDoor
set_option maxRecDepth 20000
set_option maxHeartbeats 4000000
namespace E

/-- What Scan tells: a fault, or none, and the tokens. -/
def faultOf (l : List UInt8) : Int × Int :=
  if 6000 < l.length then (3, 6000) else match scanOf l with
    | .error e => (7, ((e : Nat) : Int))
    | .ok _ => (0, 0)
def toksOf (l : List UInt8) : List Tok :=
  if 6000 < l.length then [] else match scanOf l with
    | .error _ => []
    | .ok ts => ts

/-- The bytes from a place on, where one is there. -/
theorem drop_at {l : List UInt8} {i : Nat} (h : i < l.length) : ∃ c r, l.drop i = c :: r ∧ l[i]? = some c ∧ l.drop (i + 1) = r := by
  refine ⟨l[i], l.drop (i + 1), List.drop_eq_getElem_cons h, List.getElem?_eq_getElem h, rfl⟩

theorem bit_len {c : UInt8} {r t : List UInt8} {b : Bool} {v : Int} (h : bit c r = .tok t b v) : 1 ≤ t.length ∧ t.length ≤ (c :: r).length := by
  obtain ⟨u, q, rfl, rfl, _⟩ := bit_tok h
  simp only [List.length_cons, List.length_append]
  omega

theorem bit_not_skip {c : UInt8} {r : List UInt8} (hbl : blankB c = false) : bit c r ≠ .skip := by
  intro hbit
  unfold bit at hbit
  rw [hbl] at hbit
  split at hbit
  · rename_i h; cases h
  · split at hbit
    · cases hbit
    · split at hbit
      · cases hbit
      · split at hbit
        · split at hbit <;> cases hbit
        · cases hbit
theorem faultOf_error {l : List UInt8} {e : Nat} (hn : ¬ 6000 < l.length) (h : scanOf l = .error e) : faultOf l = (7, ((e : Nat) : Int)) ∧ toksOf l = [] := by
  unfold faultOf toksOf
  rw [if_neg hn, if_neg hn, h]
  exact ⟨rfl, rfl⟩
theorem faultOf_ok {l : List UInt8} {ts : List Tok} (hn : ¬ 6000 < l.length) (h : scanOf l = .ok ts) : faultOf l = (0, 0) ∧ toksOf l = ts := by
  unfold faultOf toksOf
  rw [if_neg hn, if_neg hn, h]
  exact ⟨rfl, rfl⟩

theorem textLen_ge : ∀ (ts : List Tok), fine ts → ts.length ≤ textLen ts
  | [], _ => Nat.le_refl _
  | t :: r, h => by
    have ih := textLen_ge r h.2
    obtain ⟨c, u, r0, h1, _⟩ := h.1
    simp only [textLen, List.length_cons, h1]
    omega
theorem toksOf_len (l : List UInt8) : (toksOf l).length ≤ 1000000 := by
  unfold toksOf
  split
  · exact Nat.zero_le _
  · rename_i hn
    split
    · exact Nat.zero_le _
    · rename_i ts h
      have ⟨h1, h2⟩ := toks_fine _ _ _ _ h
      have := textLen_ge ts h1
      omega

theorem fault_cases (l : List UInt8) (hl : l.length ≤ 6000) : (∃ e : Nat, faultOf l = (7, ((e : Nat) : Int)) ∧ toksOf l = []) ∨ (∃ ts, scanOf l = .ok ts ∧ faultOf l = (0, 0) ∧ toksOf l = ts) := by
  cases h : scanOf l with
  | error e => exact .inl ⟨e, faultOf_error (by omega) h⟩
  | ok ts => exact .inr ⟨ts, rfl, faultOf_ok (by omega) h⟩

end E
end Go.Proofs.YthbkcadiejfgaacGreatDoor

/- Plain mathematics of reading and printing: statements behind statements; numbers that are read are of 64 bits; what a text is. -/
namespace Go.Proofs.YthbkcadiejfgaacGreatDoor
set_option maxRecDepth 20000
set_option maxHeartbeats 4000000
namespace E
open Go.Lib

/-! ### Numbers that are read -/
def longTs (ts : List Tok) : Prop := ∀ t ∈ ts, in64 t.val
theorem bit_long {c : UInt8} {r t : List UInt8} {b : Bool} {v : Int} (h : bit c r = .tok t b v) : in64 v := by
  unfold bit at h
  split at h
  · cases h
  split at h
  · injection h with _ _ h; subst h; exact ⟨by decide, by decide⟩
  split at h
  · injection h with _ _ h; subst h; exact ⟨by decide, by decide⟩
  split at h
  · split at h
    · rename_i w hw
      injection h with _ _ h
      subst h
      have := longOf_some hw
      exact ⟨this.2.1, this.2.2.1⟩
    · cases h
  · cases h
theorem fine_long : ∀ {ts : List Tok}, fine ts → longTs ts
  | [], _ => fun t ht => by simp at ht
  | x :: r, h => by
    obtain ⟨⟨c, u, r0, _, h2⟩, h3⟩ := h
    intro t ht
    rcases List.mem_cons.1 ht with rfl | ht
    · exact bit_long h2
    · exact fine_long h3 t ht
theorem scan_long {l : List UInt8} {ts : List Tok} (h : scanOf l = .ok ts) : longTs ts := fine_long (toks_fine _ _ _ _ h).1

section
variable {ts : List Tok} {fin : Nat}
theorem numP_long (hl : longTs ts) {i : Nat} {r : Int × Nat} (h : numP ts fin i = .ok r) : in64 r.1 := by
  unfold numP at h
  split at h
  · rename_i t ht
    split at h
    · injection h with h; subst h; exact hl t (List.mem_of_getElem? ht)
    · cases h
  · cases h
theorem manyP_long {one : Nat → Except Flt (ET × Nat)} (h1 : ∀ i r, one i = .ok r → longE r.1) : ∀ (m i : Nat) (r : List ET × Nat), manyP one m i = .ok r → longEs r.1
  | 0, i, r, h => by injection h with h; subst h; simp only [longEs]
  | m + 1, i, r, h => by
    obtain ⟨⟨t, j⟩, ha, hb⟩ := bnd_ok h
    obtain ⟨⟨r', k⟩, hc, hd⟩ := bnd_ok hb
    injection hd with hd
    subst hd
    simp only [longEs]
    exact ⟨h1 _ _ ha, manyP_long h1 m j _ hc⟩
theorem untilP_long {st : Nat → Bool} {one : Nat → Except Flt (ST × Nat)} (h1 : ∀ i r, one i = .ok r → longSt r.1) : ∀ (m i : Nat) (r : List ST × Nat), untilP st one m i = .ok r → longSs r.1
  | 0, _, _, h => by cases h
  | m + 1, i, r, h => by
    unfold untilP at h
    split at h
    · injection h with h; subst h; simp only [longSs]
    · obtain ⟨⟨t, j⟩, ha, hb⟩ := bnd_ok h
      obtain ⟨⟨r', k⟩, hc, hd⟩ := bnd_ok hb
      injection hd with hd
      subst hd
      simp only [longSs]
      exact ⟨h1 _ _ ha, untilP_long h1 m j _ hc⟩
theorem exprP_long (hl : longTs ts) (vs : List VarT) : ∀ (f i : Nat) (r : ET × Nat), exprP ts fin vs f i = .ok r → longE r.1
  | 0, _, _, h => by cases h
  | f + 1, i, r, h => by
    unfold exprP at h
    obtain ⟨⟨k, i1⟩, h1, h⟩ := bnd_ok h
    obtain ⟨⟨n, i2⟩, h2, h⟩ := bnd_ok h
    obtain ⟨⟨v, i3⟩, h3, h⟩ := bnd_ok h
    obtain ⟨⟨l, i4⟩, h4, h⟩ := bnd_ok h
    obtain ⟨i5, h5, h⟩ := bnd_ok h
    injection h with h
    subst h
    simp only [longE]
    refine ⟨?_, manyP_long (exprP_long hl vs f) _ _ _ h4⟩
    split at h2
    · exact numP_long hl h2
    · injection h2 with h2; injection h2 with h2 _; subst h2; exact ⟨by decide, by decide⟩
theorem zeroT_long : longE zeroT := by
  simp only [zeroT, longE, longEs, and_true]
  exact ⟨by decide, by decide⟩
theorem listP_long {one : Nat → Except Flt (ST × Nat)} (h1 : ∀ i r, one i = .ok r → longSt r.1) {i : Nat} {r : List ST × Nat} (h : listP ts fin one i = .ok r) : longSs r.1 := by
  unfold listP at h
  obtain ⟨j, _, h⟩ := bnd_ok h
  obtain ⟨⟨l, k⟩, h2, h⟩ := bnd_ok h
  obtain ⟨m, _, h⟩ := bnd_ok h
  injection h with h
  subst h
  exact untilP_long h1 _ _ (l, k) h2
theorem stmtP_long (hl : longTs ts) (vs : List VarT) : ∀ (f i : Nat) (r : ST × Nat), stmtP ts fin vs f i = .ok r → longSt r.1
  | 0, _, _, h => by cases h
  | f + 1, i, r, h => by
    unfold stmtP at h
    obtain ⟨⟨k, i1⟩, h1, h⟩ := bnd_ok h
    obtain ⟨⟨v, i2⟩, h2, h⟩ := bnd_ok h
    obtain ⟨⟨e, i3⟩, h3, h⟩ := bnd_ok h
    obtain ⟨⟨g, i4⟩, h4, h⟩ := bnd_ok h
    obtain ⟨⟨b, i5⟩, h5, h⟩ := bnd_ok h
    obtain ⟨⟨o, i6⟩, h6, h⟩ := bnd_ok h
    obtain ⟨i7, h7, h⟩ := bnd_ok h
    injection h with h
    subst h
    simp only [longSt]
    refine ⟨?_, ?_, ?_, ?_⟩
    · split at h3
      · exact exprP_long hl vs f _ _ h3
      · injection h3 with h3; injection h3 with h3 _; subst h3; exact zeroT_long
    · split at h4
      · exact exprP_long hl vs f _ _ h4
      · injection h4 with h4; injection h4 with h4 _; subst h4; exact zeroT_long
    · split at h5
      · exact listP_long (stmtP_long hl vs f) h5
      · injection h5 with h5; injection h5 with h5 _; subst h5; simp only [longSs]
    · split at h6
      · exact listP_long (stmtP_long hl vs f) h6
      · injection h6 with h6; injection h6 with h6 _; subst h6; simp only [longSs]
theorem readP_long (hl : longTs ts) {vs : List VarT} {b : List ST} (h : readP ts fin = .ok (vs, b)) : longSs b := by
  unfold readP at h
  obtain ⟨⟨vs', i⟩, _, h⟩ := bnd_ok h
  obtain ⟨⟨b', k⟩, h2, h⟩ := bnd_ok h
  injection h with h
  injection h with h3 h4
  subst h3
  subst h4
  exact untilP_long (stmtP_long hl vs' 13) _ _ _ h2
end

/-! ### Statements behind statements -/
theorem untilP_more {α : Type} {st : Nat → Bool} {f : Nat → Except Flt (α × Nat)} {c d i : Nat} (h : c ≤ d) : lesX (untilP st f c i) (untilP st f d i) :=
  untilP_ext (fun _ _ _ => rfl) (fun _ => les_refl _) (fun _ h => h) c d i h
theorem until_join {α : Type} {L : Nat} {st st' : Nat → Bool} {f g : Nat → Except Flt (α × Nat)} (hs : ∀ i, st i = false → st' i = false) (hf : ∀ i, lesX (f i) (g i)) {c : List α} {e m' : Nat} :
    ∀ (m M i : Nat) (b : List α) (k : Nat), i ≤ L → untilP st f m i = .ok (b, k) → untilP st' g m' k = .ok (c, e) → m + m' ≤ M → untilP st' g M i = .ok (b ++ c, e)
  | 0, _, _, _, _, _, h, _, _ => by cases h
  | m + 1, 0, _, _, _, _, _, _, hM => by omega
  | m + 1, M + 1, i, b, k, hi, h, h2, hM => by
    unfold untilP at h
    split at h
    · injection h with h
      injection h with h3 h4
      subst h3
      subst h4
      exact untilP_more (by omega) _ h2
    · rename_i hst
      obtain ⟨⟨t, j⟩, ha, hb⟩ := bnd_ok h
      obtain ⟨⟨r', k'⟩, hc, hd⟩ := bnd_ok hb
      injection hd with hd
      injection hd with h3 h4
      subst h3
      subst h4
      have ih := until_join (L := max L j) hs hf m M j r' k' (by omega) hc h2 (by omega)
      unfold untilP
      rw [hs i (by simpa using hst), if_neg (by decide), hf i _ ha]
      simp only [bnd]
      rw [ih]
      rfl
theorem until_upto {α : Type} {L : Nat} {st st' : Nat → Bool} {f g : Nat → Except Flt (α × Nat)} (h0 : ∀ i r, f i = .ok r → i < r.2 ∧ r.2 ≤ L) (hs : ∀ i, i < L → st' i = st i) (hL : st' L = true) (hf : ∀ i, lesX (f i) (g i)) :
    ∀ (m M i : Nat) (r : List α × Nat), i ≤ L → untilP st f m i = .ok r → m ≤ M → untilP st' g M i = .ok r
  | 0, _, _, _, _, h, _ => by cases h
  | m + 1, 0, _, _, _, _, hM => by omega
  | m + 1, M + 1, i, r, hi, h, hM => by
    unfold untilP at h ⊢
    split at h
    · rename_i hst
      have : st' i = true := by
        rcases Nat.lt_or_ge i L with h' | h'
        · rw [hs i h', hst]
        · have : i = L := by omega
          rw [this]; exact hL
      rw [if_pos this]
      exact h
    · rename_i hst
      obtain ⟨⟨t, j⟩, ha, hb⟩ := bnd_ok h
      have h1 := h0 _ _ ha
      dsimp only at h1
      rw [hs i (by omega), if_neg hst, hf i _ ha]
      obtain ⟨⟨r', k'⟩, hc, hd⟩ := bnd_ok hb
      simp only [bnd]
      rw [until_upto h0 hs hL hf m M j _ h1.2 hc (by omega)]
      exact hd

theorem at_tail {ts us : List Tok} {K : List Tk} (h : us.map tri = K) : At (ts ++ us) ts.length K := by
  intro j x hx
  rw [← h, List.getElem?_map, Option.map_eq_some_iff] at hx
  obtain ⟨t, ht, rfl⟩ := hx
  exact ⟨t, by rw [List.getElem?_append_right (Nat.le_add_right _ _), Nat.add_sub_cancel_left]; exact ht, rfl⟩

theorem read_join {ts us : List Tok} {fin fin' : Nat} {vs : List VarT} {b c : List ST} (h : readP ts fin = .ok (vs, b)) (hn : NamesOk vs) {k' : Nat} (hc : chkSs vs.length c 0 0 = .ok k') (hus : us.map tri = tokSs vs c) :
    readP (ts ++ us) fin' = .ok (vs, b ++ c) := by
  have hext : Ext ts (ts ++ us) := ⟨us, rfl⟩
  have hat := at_tail (ts := ts) hus
  have hul : us.length = (tokSs vs c).length := by rw [← hus, List.length_map]
  unfold readP at h ⊢
  obtain ⟨⟨vs', i0⟩, h1, h⟩ := bnd_ok h
  obtain ⟨⟨b', e0⟩, h2, h⟩ := bnd_ok h
  injection h with h
  injection h with h3 h4
  subst h3
  subst h4
  have hlet : letsP (ts ++ us) fin' 0 = .ok (vs', i0) := by
    unfold letsP at h1 ⊢
    refine until_upto (L := ts.length) (fun i r hr => letP_ok hr) (fun i hi => by rw [isT_ext hext hi]) ?_ (letP_ext hext) _ _ 0 _ (Nat.zero_le _) h1 (by rw [List.length_append]; omega)
    cases c with
    | nil =>
      rw [tokSs] at hus
      have : us = [] := List.eq_nil_of_length_eq_zero (by rw [hul]; rfl)
      rw [this, List.append_nil]
      unfold isT
      rw [List.getElem?_eq_none (Nat.le_refl _)]
      rfl
    | cons t r =>
      obtain ⟨K, hK⟩ := tokS_head vs' t
      rw [tokSs, hK] at hat
      rw [one_is (w := [40]) hat.cons.1]
      rfl
  rw [hlet]
  simp only [bnd]
  have h0 := untilP_ok (ts := ts) (fun i r hr => letP_ok hr) _ _ _ (Nat.zero_le _) (show untilP _ _ _ 0 = _ from h1)
  have hi0 : i0 ≤ ts.length := h0.2.1
  have he := untilP_ok (ts := ts) (stmtP_ok vs' 13) _ _ _ hi0 (show untilP _ _ _ i0 = _ from h2)
  have he0 : e0 = ts.length := by
    have := he.2.2
    simp only [decide_eq_true_eq] at this
    have := he.2.1
    dsimp only at *
    omega
  subst he0
  have hback := back_Ss (ts := ts ++ us) (fin := fin') hn c 0 0 k' 13 ts.length (fun j => decide ((ts ++ us).length ≤ j)) (c.length + 1) hc rfl (by rw [List.length_append]; omega) hat
    (fun j ⟨t, ht, _⟩ => by
      have := (List.getElem?_eq_some_iff.1 ht).1
      simp only [decide_eq_false_iff_not]
      omega) (by rw [List.length_append, hul]; simp) (by omega)
  have hj := until_join (L := ts.length) (st := fun j => decide (ts.length ≤ j)) (st' := fun j => decide ((ts ++ us).length ≤ j)) (fun i hi => by
      simp only [decide_eq_false_iff_not, List.length_append] at hi ⊢
      omega) (stmtP_ext hext (m := fin) (n := fin') vs' 13) _ (ts.length + 1 - i0 + (c.length + 1)) i0 _ _ hi0 h2 hback (Nat.le_refl _)
  have hf := untilP_fuel (ts := ts ++ us) (st := fun j => decide ((ts ++ us).length ≤ j)) (stmtP_ok (fin := fin') vs' 13) (ts.length + 1 - i0 + (c.length + 1) + us.length) ((ts ++ us).length + 1 - i0) i0 (by rw [List.length_append]; omega) (by rw [List.length_append]; omega) (by rw [List.length_append]; omega)
  unfold bodyP
  rw [← hf, untilP_more (by omega) _ hj]

/-! ### A text -/
/-- What program a text is, or its fault. -/
def parseOf (l : List UInt8) : Except Flt (List VarT × List ST) := if (faultOf l).1 ≠ 0 then .error (faultOf l) else parseT (toksOf l) l.length
theorem parseOf_ok {l : List UInt8} {r : List VarT × List ST} (h : parseOf l = .ok r) : ∃ ts, scanOf l = .ok ts ∧ l.length ≤ 6000 ∧ readP ts l.length = .ok r ∧ progFault r.1 r.2 = 0 := by
  unfold parseOf at h
  split at h
  · cases h
  · rename_i hf
    by_cases hl : 6000 < l.length
    · exfalso
      apply hf
      unfold faultOf
      rw [if_pos hl]
      decide
    · cases hs : scanOf l with
      | error e =>
        exfalso
        apply hf
        rw [(faultOf_error hl hs).1]
        show (7 : Int) ≠ 0
        decide
      | ok ts =>
        rw [(faultOf_ok hl hs).2] at h
        unfold parseT at h
        obtain ⟨⟨vs, b⟩, h1, h2⟩ := bnd_ok h
        dsimp only at h2
        split at h2
        · cases h2
        · rename_i hp
          injection h2 with h2
          subst h2
          exact ⟨ts, rfl, by omega, h1, by simpa using hp⟩
theorem parseOf_mk {l : List UInt8} {ts : List Tok} (hs : scanOf l = .ok ts) (hl : l.length ≤ 6000) : parseOf l = parseT ts l.length := by
  unfold parseOf
  obtain ⟨e1, e2⟩ := faultOf_ok (by omega) hs
  rw [e1, e2, if_neg (by decide)]

/-- HOW IT IS LAID OUT DOES NOT MATTER: another text with the same tokens. -/
theorem parse_blanks {l l' : List UInt8} {r : List VarT × List ST} {ts us : List Tok} (h : parseOf l = .ok r) (hs : scanOf l = .ok ts) (hs' : scanOf l' = .ok us) (hl : l'.length ≤ 6000) (hk : us.map tri = ts.map tri) : parseOf l' = .ok r := by
  obtain ⟨ts', h1, h2, _⟩ := parseOf_ok h
  rw [parseOf_mk hs h2] at h
  rw [parseOf_mk hs' hl]
  have hlike : Like ts us := by
    intro i
    have := congrArg (fun x : List Tk => x[i]?) hk
    simp only [List.getElem?_map] at this
    cases ha : ts[i]? with
    | none =>
      rw [ha] at this
      cases hb : us[i]? with
      | none => exact .inl ⟨rfl, rfl⟩
      | some b => rw [hb] at this; cases this
    | some a =>
      rw [ha] at this
      cases hb : us[i]? with
      | none => rw [hb] at this; cases this
      | some b =>
        rw [hb] at this
        simp only [Option.map_some, Option.some.injEq] at this
        unfold tri at this
        injection this with e1 e2
        injection e2 with e2 e3
        exact .inr ⟨a, b, rfl, rfl, e1.symm, e2.symm, e3.symm⟩
  exact sim_eq (parseT_like hlike) h

/-- STATEMENTS BEHIND STATEMENTS. -/
theorem parse_join {a : List UInt8} {vs : List VarT} {b c : List ST} (h : parseOf a = .ok (vs, b)) {k' : Nat} (hc : chkSs vs.length c 0 0 = .ok k') (hlc : longSs c) (hl : (a ++ 10 :: printB vs c).length ≤ 6000) :
    parseOf (a ++ 10 :: printB vs c) = if progFault vs (b ++ c) ≠ 0 then .error (progFault vs (b ++ c), -1) else .ok (vs, b ++ c) := by
  obtain ⟨ts, h1, h2, h3, h4⟩ := parseOf_ok h
  have hn := namesOk (progFault_ok h4).2.1
  have hsc : Sc (10 :: printB vs c) (tokSs vs c) := sc_bl (by decide) (sc_B hn c 0 0 k' hc hlc).1
  have hsa := scans_app (scan_scans h1) hsc.1 (.inl hsc.2)
  obtain ⟨xs, hx, hm⟩ := scans_scan hsa
  -- its first tokens are those of a, but for their places
  obtain ⟨us, vs2, rfl, hu, hv⟩ : ∃ us vs2, xs = us ++ vs2 ∧ us.map tri = ts.map tri ∧ vs2.map tri = tokSs vs c := by
    refine ⟨xs.take ts.length, xs.drop ts.length, (List.take_append_drop _ _).symm, ?_, ?_⟩
    · rw [List.map_take, hm]
      have : ts.length = (ts.map tri).length := by rw [List.length_map]
      rw [this, List.take_left]
    · rw [List.map_drop, hm]
      have : ts.length = (ts.map tri).length := by rw [List.length_map]
      rw [this, List.drop_left]
  rw [parseOf_mk hx hl]
  have hlike : Like ts us := by
    intro i
    have := congrArg (fun x : List Tk => x[i]?) hu
    simp only [List.getElem?_map] at this
    cases ha : ts[i]? with
    | none =>
      rw [ha] at this
      cases hb : us[i]? with
      | none => exact .inl ⟨rfl, rfl⟩
      | some b => rw [hb] at this; cases this
    | some a =>
      rw [ha] at this
      cases hb : us[i]? with
      | none => rw [hb] at this; cases this
      | some b =>
        rw [hb] at this
        simp only [Option.map_some, Option.some.injEq] at this
        unfold tri at this
        injection this with e1 e2
        injection e2 with e2 e3
        exact .inr ⟨a, b, rfl, rfl, e1.symm, e2.symm, e3.symm⟩
  have hread : readP us a.length = .ok (vs, b) := sim_eq (readP_like hlike) h3
  have hj := read_join (fin' := (a ++ 10 :: printB vs c).length) hread hn hc hv
  unfold parseT
  rw [hj]
  rfl
end E
end Go.Proofs.YthbkcadiejfgaacGreatDoor

/- Reading an argument: rows of integers, and lists chosen index by index. -/
namespace Go.Proofs.YthbkcadiejfgaacGreatDoor
set_option maxRecDepth 20000
set_option maxHeartbeats 4000000
namespace E

section
variable {H : Type} {enc : TypeId × Value → H} {P : Program} {w : World} {base : Nat} {spare : Nat → Bool} {held : Bool} {fuel : Nat} {t : TypeId} {cs : List Value} {x : DataW H × List MemPlace}

theorem trod_int1 {k : IntKind} (ht : P.underlying t = some (.int k)) (h : DataW.trod enc P w base spare held fuel t cs = some x) : ∃ n, cs = [.int k n] ∧ (Lit.int k n).wf = true := by
  obtain ⟨n, h1, _, h3⟩ := DataW.trod_int ht h
  exact ⟨n, h1, h3⟩

/-- Numbers, of a family of facts. -/
theorem choose_list {α : Type} {p : Nat → α → Prop} : ∀ n, (∀ i, i < n → ∃ a, p i a) → ∃ l : List α, l.length = n ∧ ∀ i a, l[i]? = some a → p i a
  | 0, _ => ⟨[], rfl, fun i a h => by simp at h⟩
  | n + 1, h => by
    obtain ⟨l, hl, hp⟩ := choose_list n fun i hi => h i (Nat.lt_succ_of_lt hi)
    obtain ⟨a, ha⟩ := h n (Nat.lt_succ_self n)
    refine ⟨l ++ [a], by simp [hl], fun i b hb => ?_⟩
    rcases Nat.lt_or_ge i l.length with hlt | hge
    · rw [List.getElem?_append_left hlt] at hb
      exact hp i b hb
    · rw [List.getElem?_append_right hge] at hb
      have : i - l.length = 0 := by
        rcases Nat.eq_zero_or_pos (i - l.length) with h0 | h0
        · exact h0
        · rw [List.getElem?_eq_none (by simp; omega)] at hb; cases hb
      rw [this] at hb
      simp at hb
      subst hb
      have hi : i = n := by omega
      rw [hi]; exact ha

/-- An array of integers. -/
theorem trod_ints {n e : Nat} {k : IntKind} (ht : P.underlying t = some (.array n e)) (he : P.underlying e = some (.int k)) (hc : P.cellsOf e = 1) (hn : P.cellsOf t = n) (h : DataW.trod enc P w base spare held fuel t cs = some x) :
    ∃ ns : List Int, cs = ns.map (fun z => Value.int k z) ∧ ns.length = n := by
  obtain ⟨xs, m, _, _, hl, hlen, hx⟩ := DataW.trod_array ht h
  have hall : ∀ i, i < n → ∃ z : Int, cs[i]? = some (.int k z) := fun i hi => by
    have h1 := hx i hi
    rw [hc, Nat.mul_one, List.getElem?_eq_getElem (by omega)] at h1
    obtain ⟨z, hz, _⟩ := trod_int1 he h1
    refine ⟨z, ?_⟩
    have : ((cs.drop i).take 1)[0]? = some (.int k z) := by rw [hz]; rfl
    simpa using this
  obtain ⟨ns, hns, hp⟩ := choose_list n hall
  refine ⟨ns, ?_, hns⟩
  apply List.ext_getElem?
  intro i
  rcases Nat.lt_or_ge i n with hi | hi
  · have h1 : ns[i]? = some ns[i] := List.getElem?_eq_getElem (by omega)
    rw [hp i _ h1]
    simp [h1]
  · rw [List.getElem?_eq_none (by omega), List.getElem?_eq_none (by simp; omega)]

theorem cells?_get {a : Addr} {n : Nat} (h : w.cells? base a n = some cs) : cs.length = n ∧ ∀ j v, cs[j]? = some v → w.cell? (a.add j) = some v := by
  unfold World.cells? at h
  split at h
  · have hl := mapM_some_length h
    simp only [List.length_range] at hl
    refine ⟨hl, fun j v hv => ?_⟩
    have hj : j < n := by
      have := (List.getElem?_eq_some_iff.1 hv).1
      omega
    have := mapM_some_get h j j (by simp [hj])
    rw [this]; exact hv
  · cases h

theorem flat_get {α : Type} {f : α → List Value} {k : Nat} (hk : 0 < k) : ∀ {L : List α} {j : Nat} {v : Value}, (∀ p ∈ L, (f p).length = k) → (L.flatMap f)[j]? = some v → ∃ p, L[j / k]? = some p ∧ (f p)[j % k]? = some v
  | [], _, _, _, h => by simp at h
  | a :: r, j, v, hl, h => by
    have ha := hl a (by simp)
    rw [List.flatMap_cons] at h
    rcases Nat.lt_or_ge j k with hj | hj
    · rw [List.getElem?_append_left (by omega)] at h
      exact ⟨a, by rw [Nat.div_eq_of_lt hj]; rfl, by rw [Nat.mod_eq_of_lt hj]; exact h⟩
    · rw [List.getElem?_append_right (by omega), ha] at h
      obtain ⟨p, h1, h2⟩ := flat_get hk (fun p hp => hl p (List.mem_cons_of_mem _ hp)) h
      refine ⟨p, ?_, ?_⟩
      · have : j / k = (j - k) / k + 1 := by
          rw [← Nat.add_div_right _ hk, Nat.sub_add_cancel hj]
        rw [this]; exact h1
      · rw [Nat.mod_eq_sub_mod hj]; exact h2
end
end E
end Go.Proofs.YthbkcadiejfgaacGreatDoor

/- Reading an argument: a slice whose elements are known. -/
namespace Go.Proofs.YthbkcadiejfgaacGreatDoor
set_option maxRecDepth 20000
set_option maxHeartbeats 4000000
namespace E

section
variable {H : Type} {enc : TypeId × Value → H} {P : Program} {w : World} {held : Bool} {fuel : Nat} {t e : TypeId} {cs : List Value} {x : DataW H × List MemPlace} {α : Type}

theorem open_list (f : α → List Value) (Q : α → Prop) (k : Nat) (hk : 0 < k) (ht : P.underlying t = some (.slice e)) (hc : P.cellsOf e = k) (hf : ∀ s, Q s → (f s).length = k)
    (hel : ∀ n cs x, DataW.trod enc P w 0 (fun _ => true) held n e cs = some x → ∃ s, cs = f s ∧ Q s) (h : DataW.trod enc P w 0 (fun _ => true) held fuel t cs = some x) :
    ∃ (a : Option Addr) (cap : Nat) (L : List α), cs = [.slice a L.length cap] ∧ (L ≠ [] → ∃ b q, a = some ⟨b, q, none⟩ ∧ b < w.heap.size ∧ w.rangeAt b q (L.flatMap f)) ∧ ∀ s ∈ L, Q s := by
  rcases Go.Deep.open_slice ht h with ⟨hcs, _⟩ | ⟨a, len, cap, m, n, D, Pl, hcs, _, hl, _, hm, _, hall⟩
  · exact ⟨none, 0, [], hcs, fun h => absurd rfl h, by simp⟩
  · simp only [if_true] at hm
    rw [hc] at hall
    have hel' : ∀ i, i < len → ∃ s : α, Q s ∧ ∀ j u, (f s)[j]? = some u → w.cell? (a.add (i * k + j)) = some u := fun i hi => by
      obtain ⟨cs', h1, h2⟩ := hall i (by omega)
      obtain ⟨s, rfl, hq⟩ := hel _ _ _ h2
      refine ⟨s, hq, fun j u hu => ?_⟩
      have := (cells?_get h1).2 j u hu
      rwa [Go.Deep.add_add] at this
    obtain ⟨L, hL, hp⟩ := choose_list len hel'
    have hQ : ∀ s ∈ L, Q s := fun s hs => by
      obtain ⟨i, hi⟩ := List.getElem?_of_mem hs
      exact (hp i s hi).1
    refine ⟨some a, cap, L, by rw [hcs, hL], fun hne => ?_, hQ⟩
    have hcell : ∀ j u, (L.flatMap f)[j]? = some u → w.cell? (a.add j) = some u := fun j u hu => by
      obtain ⟨s, h1, h2⟩ := flat_get hk (fun p hp => hf p (hQ p hp)) hu
      have := (hp _ s h1).2 _ u h2
      rwa [Nat.mul_comm, Nat.div_add_mod] at this
    obtain ⟨u0, hu0⟩ : ∃ u, (L.flatMap f)[0]? = some u := by
      cases L with
      | nil => exact absurd rfl hne
      | cons s r =>
        have hs := hf s (hQ s (by simp))
        refine ⟨(f s)[0]'(by omega), ?_⟩
        rw [List.flatMap_cons, List.getElem?_append_left (by omega), List.getElem?_eq_getElem (by omega)]
    have hc0 := hcell 0 u0 hu0
    have hsp : a.spot = none := by
      have := World.cell?_spot hc0
      simpa [Addr.add] using this
    obtain ⟨b, q, sp⟩ := a
    simp only at hsp
    subst hsp
    refine ⟨b, q, rfl, ?_, fun j u hu => by have := hcell j u hu; rwa [Addr.add_mid] at this⟩
    have := World.block_lt_of_cell? w _ hc0
    simpa [Addr.add] using this
end
end E
end Go.Proofs.YthbkcadiejfgaacGreatDoor
