/- Several texts in one: PlM, TkE, RowT. -/
import Derived.Test.YthbkcadiejfgaacGreatDoorJ06
import Derived.Test.YthbkcadiejfgaacGreatDoorJ04
/- Plain mathematics for the laws of package parse: other blanks between the tokens. -/
namespace Go.Proofs.YthbkcadiejfgaacGreatDoor
set_option maxRecDepth 20000
set_option maxHeartbeats 4000000
namespace E
open Go.Proofs

theorem scans_skip {c : UInt8} {T : List UInt8} {K : List Tk} (h : blankB c = true) (hT : Scans T K) : Scans (c :: T) K := by
  intro f pos rest hr hl
  obtain ⟨us, h1, h2⟩ := hT f (pos + 1) rest hr (by simp only [List.cons_append, List.length_cons] at hl; omega)
  refine ⟨us, h1, fun acc => ?_⟩
  rw [List.cons_append] at hl ⊢
  rw [toks_skip (bit_blank c _ h) hl, h2, List.length_cons]
  congr 2
  omega
def joinW (sep : List UInt8) : List Tok → List UInt8
  | [] => []
  | t :: r => (t.text ++ sep) ++ joinW sep r
theorem joinW_snoc (sep : List UInt8) (t : Tok) : ∀ l, joinW sep (l ++ [t]) = joinW sep l ++ (t.text ++ sep)
  | [] => by simp [joinW]
  | x :: r => by simp only [List.cons_append, joinW, joinW_snoc sep t r, List.append_assoc]
theorem joinW_take (sep : List UInt8) {l : List Tok} {i : Nat} {t : Tok} (h : l[i]? = some t) : joinW sep (l.take (i + 1)) = joinW sep (l.take i) ++ (t.text ++ sep) := by
  obtain ⟨hi, rfl⟩ := List.getElem?_eq_some_iff.1 h
  rw [List.take_succ_eq_append_getElem hi, joinW_snoc]
theorem joinW_len (sep : List UInt8) : ∀ l, (joinW sep l).length = textLen l + sep.length * l.length
  | [] => by simp [joinW, textLen]
  | x :: r => by
    simp only [joinW, textLen, List.length_append, List.length_cons, joinW_len sep r, Nat.mul_add]
    omega
theorem textLen_take : ∀ (ts : List Tok) (i : Nat), textLen (ts.take i) ≤ textLen ts
  | [], i => by simp [textLen]
  | x :: r, 0 => by simp [textLen]
  | x :: r, i + 1 => by
    have := textLen_take r i
    simp only [List.take_succ_cons, textLen]
    omega
theorem fine_len : ∀ {ts : List Tok}, fine ts → ts.length ≤ textLen ts
  | [], _ => Nat.le_refl _
  | x :: r, h => by
    obtain ⟨⟨c, u, r0, h1, _⟩, h2⟩ := h
    have := fine_len h2
    simp only [textLen, List.length_cons, h1]
    omega
theorem scans_sep {c : UInt8} {s : List UInt8} (hc : blankB c = true) (hs : s.all blankB = true) : ∀ {ts : List Tok}, fine ts → Scans (joinW (c :: s) ts) (ts.map tri)
  | [], _ => scans_nil
  | x :: r, h => by
    obtain ⟨⟨a, u, r0, h1, h3⟩, h2⟩ := h
    have ih := scans_sep hc hs h2
    have hb : bit a u = .tok (a :: u) x.num x.val := by
      have := bit_again h3 []
      rwa [bit_brk (q := [32]) (by decide)] at this
    have hx : Scans x.text [tri x] := by
      have := scans_tok hb
      rw [← h1] at this
      exact this
    have hss : ∀ s : List UInt8, s.all blankB = true → Scans (s ++ joinW (c :: s) r) (r.map tri) → True := fun _ _ _ => trivial
    have hsk : ∀ (s' : List UInt8), s'.all blankB = true → Scans (s' ++ joinW (c :: s) r) (r.map tri) := by
      intro s' hs'
      induction s' with
      | nil => exact ih
      | cons d s' ih' =>
        simp only [List.all_cons, Bool.and_eq_true] at hs'
        exact scans_skip hs'.1 (ih' hs'.2)
    have h4 : Scans (c :: (s ++ joinW (c :: s) r)) (r.map tri) := scans_skip hc (hsk s hs)
    have := scans_app hx h4 (.inl (by simp [brk, hc]))
    simp only [joinW, List.append_assoc, List.cons_append]
    exact this
theorem blanks_ok {l : List UInt8} {r : List VarT × List ST} (h : parseOf l = .ok r) (hl : l.length ≤ 1900) : fine (toksOf l) ∧ textLen (toksOf l) ≤ l.length ∧ parseOf (9 :: joinW [32, 10] (toksOf l)) = .ok r ∧ parseOf (joinW [13] (toksOf l)) = .ok r := by
  obtain ⟨ts, h1, h2, _⟩ := parseOf_ok h
  have e : toksOf l = ts := by
    unfold toksOf
    rw [if_neg (by omega), h1]
  rw [e]
  obtain ⟨hf, ht⟩ := toks_fine _ _ _ _ h1
  have hn := fine_len hf
  have hj1 := joinW_len [32, 10] ts
  have hj2 := joinW_len [13] ts
  simp only [List.length_cons, List.length_nil] at hj1 hj2
  obtain ⟨us, hs1, hs2⟩ := scans_scan (scans_skip (c := 9) (by decide) (scans_sep (c := 32) (s := [10]) (by decide) (by decide) hf))
  obtain ⟨us', hs1', hs2'⟩ := scans_scan (scans_sep (c := 13) (s := []) (by decide) (by decide) hf)
  exact ⟨hf, ht, parse_blanks h h1 hs1 (by simp only [List.length_cons]; omega) hs2, parse_blanks h h1 hs1' (by omega) hs2'⟩
theorem parseOf_size {l : List UInt8} {vs : List VarT} {b : List ST} (h : parseOf l = .ok (vs, b)) : szSs b ≤ 18000 ∧ vs.length ≤ 8 ∧ longSs b ∧ progFault vs b = 0 := by
  obtain ⟨ts, h1, h2, h3, h4⟩ := parseOf_ok h
  have hlong := readP_long (scan_long h1) h3
  obtain ⟨hf, ht⟩ := toks_fine _ _ _ _ h1
  have hn := fine_len hf
  unfold readP at h3
  obtain ⟨⟨vs', i⟩, ha, h3⟩ := bnd_ok h3
  obtain ⟨⟨b', j⟩, hb, h3⟩ := bnd_ok h3
  injection h3 with h3
  injection h3 with h3 h5
  subst h3 h5
  have hi := (untilP_ok (fun i r hr => letP_ok hr) _ _ _ (Nat.zero_le _) ha).2.1
  have hj := (untilP_ok (fun i r hr => stmtP_ok vs' 13 i r hr) _ _ _ hi hb).2.1
  have hs := untilP_size (stmtP_size vs' 13) _ _ _ hb
  dsimp only at hi hj hs
  exact ⟨by omega, (progFault_ok h4).1, hlong, h4⟩
end E
end Go.Proofs.YthbkcadiejfgaacGreatDoor

/- Contract of the document's Scan. -/
namespace Go.Proofs.YthbkcadiejfgaacGreatDoor
set_option maxRecDepth 20000
set_option maxHeartbeats 4000000
namespace E
open Go.Proofs

theorem built_rtok2 (a : Int) (s : ByteArray) : Tryz.prog.built 85 [(0, .int .i64 a), (1, .string s)] = some [Value.int .i64 a, .string s, .bool false, .int .i64 0].toArray := by kernel_rfl
theorem built_rtok4 (a : Int) (s : ByteArray) (v : Int) : Tryz.prog.built 85 [(0, .int .i64 a), (1, .string s), (2, .bool true), (3, .int .i64 v)] = some [Value.int .i64 a, .string s, .bool true, .int .i64 v].toArray := by kernel_rfl
theorem slice_rtok (a b c d : Value) : sliceCells Tryz.prog 48 1 [(0, .agg #[a, b, c, d])] = some (85, #[a, b, c, d]) := by kernel_rfl

theorem cut_tok {l : List UInt8} {i : Nat} {c : UInt8} {r t : List UInt8} {q : Bool} {z : Int} (hd : l.drop i = c :: r) (h : bit c r = .tok t q z) : (l.drop i).take (i + t.length - i) = t := by
  obtain ⟨u, s, rfl, rfl, _⟩ := bit_tok h
  rw [hd, Nat.add_sub_cancel_left, List.length_cons, List.take_succ_cons, List.take_left]

theorem faultR_ret (a b : Int) (w : World) : Ret Tryz.prog 15 [.int .i64 a, .int .i64 b] w fun r w' => r = .agg #[.int .i64 a, .int .i64 b] ∧ Keep [] w w' := by
  refine ret_of 8 Tryz.func15 rfl rfl (by simp) ?_
  (repeat (first | refine pl_pure hT rfl rfl rfl ?_ | refine pl_nil ?_ | refine rn_seq ?_ | refine rn_plain ?_ | refine rn_block ?_ | refine rn_inBlock ?_ | refine rn_skip ?_ | refine rn_true rfl ?_ | refine rn_false rfl ?_ | refine rn_exit rfl ?_ | refine pl_not rfl rfl ?_))
  refine pl_op rfl rfl (opTo_allocN _ rfl zero_fault ?_)
  intro w1 c hc hs1 hk1 hb1
  (repeat (first | refine pl_pure hT rfl rfl rfl ?_ | refine pl_nil ?_ | refine rn_seq ?_ | refine rn_plain ?_ | refine rn_block ?_ | refine rn_inBlock ?_ | refine rn_skip ?_ | refine rn_true rfl ?_ | refine rn_false rfl ?_ | refine rn_exit rfl ?_ | refine pl_not rfl rfl ?_))
  refine pl_val _ rfl rfl (val_build _ rfl rfl (built_fault a b) w1) ?_
  refine pl_op rfl rfl (opTo_storeN [.int .i64 a, .int .i64 b] rfl rfl rfl rfl size_fault hb1 (by simp) (one_fault _ _) ?_)
  intro w2 hs2 hk2 hb2
  rw [splice_whole (by rfl)] at hb2
  (repeat (first | refine pl_pure hT rfl rfl rfl ?_ | refine pl_nil ?_ | refine rn_seq ?_ | refine rn_plain ?_ | refine rn_block ?_ | refine rn_inBlock ?_ | refine rn_skip ?_ | refine rn_true rfl ?_ | refine rn_false rfl ?_ | refine rn_exit rfl ?_ | refine pl_not rfl rfl ?_))
  exact rn_ret Tryz.func15 (.inr (.inr (.inl ⟨_, _, _, rfl, rfl, blk_loadVar hT hb2 rfl⟩))) ⟨rfl, hk1.trB hk2 (by omega)⟩

theorem scanR_ret (l : List UInt8) (hl : l.length ≤ 1000000) {w : World} (hw : Lw w) : Ret Tryz.prog 19 [.string (str l)] w fun x w' =>
    ∃ v, x = .tuple #[v, .agg #[.int .i64 (faultOf l).1, .int .i64 (faultOf l).2]] ∧ Own w' w.heap.size 85 4 v (toksOf l).length ((toksOf l).flatMap tokL) ∧ Keep [] w w' := by
  refine ret_of 124 Tryz.func19 rfl rfl (by simp) ?_
  (repeat (first | refine pl_pure hT rfl rfl rfl ?_ | refine pl_nil ?_ | refine rn_seq ?_ | refine rn_plain ?_ | refine rn_block ?_ | refine rn_inBlock ?_ | refine rn_skip ?_ | refine rn_true rfl ?_ | refine rn_false rfl ?_ | refine rn_exit rfl ?_ | refine pl_not rfl rfl ?_))
  refine pl_op rfl rfl (opTo_allocN _ rfl zero_fault ?_)
  intro w1 b hb0 hs1 hk1 hb1
  (repeat (first | refine pl_pure hT rfl rfl rfl ?_ | refine pl_nil ?_ | refine rn_seq ?_ | refine rn_plain ?_ | refine rn_block ?_ | refine rn_inBlock ?_ | refine rn_skip ?_ | refine rn_true rfl ?_ | refine rn_false rfl ?_ | refine rn_exit rfl ?_ | refine pl_not rfl rfl ?_))
  refine pl_val _ rfl rfl (val_len l (by decide +kernel) rfl rfl w1) ?_
  by_cases hgt : 6000 < l.length
  · refine pl_yes rfl rfl rfl rfl rfl (by first | (simp only [cmpP]; omega) | (simp [cmpP]; done) | (simp [cmpP]; omega)) ?_
    (repeat (first | refine pl_pure hT rfl rfl rfl ?_ | refine pl_nil ?_ | refine rn_seq ?_ | refine rn_plain ?_ | refine rn_block ?_ | refine rn_inBlock ?_ | refine rn_skip ?_ | refine rn_true rfl ?_ | refine rn_false rfl ?_ | refine rn_exit rfl ?_ | refine pl_not rfl rfl ?_))
    refine pl_op rfl rfl (opTo_call (fst := []) (cap := []) rfl rfl rfl rfl (by decide +kernel) ((faultR_ret 3 6000 w1).mono ?_))
    rintro x w2 ⟨rfl, hk2⟩
    have hb2 := hk2.blk hb1 (by simp)
    (repeat (first | refine pl_pure hT rfl rfl rfl ?_ | refine pl_nil ?_ | refine rn_seq ?_ | refine rn_plain ?_ | refine rn_block ?_ | refine rn_inBlock ?_ | refine rn_skip ?_ | refine rn_true rfl ?_ | refine rn_false rfl ?_ | refine rn_exit rfl ?_ | refine pl_not rfl rfl ?_))
    refine pl_op rfl rfl (opTo_storeN [.int .i64 3, .int .i64 6000] rfl rfl rfl rfl size_fault hb2 (by simp) (one_fault _ _) ?_)
    intro w3 hs3 hk3 hb3
    rw [splice_whole (by rfl)] at hb3
    (repeat (first | refine pl_pure hT rfl rfl rfl ?_ | refine pl_nil ?_ | refine rn_seq ?_ | refine rn_plain ?_ | refine rn_block ?_ | refine rn_inBlock ?_ | refine rn_skip ?_ | refine rn_true rfl ?_ | refine rn_false rfl ?_ | refine rn_exit rfl ?_ | refine pl_not rfl rfl ?_))
    refine rn_retTC Tryz.func19 rfl rfl rfl (blk_loadVar hT hb3 rfl) ⟨.slice none 0 0, ?_, ?_, (hk1.tr hk2).trB hk3 (by omega)⟩
    · unfold faultOf
      rw [if_pos hgt]
    · unfold toksOf
      rw [if_pos hgt]
      exact Own.nil _ _ _ _
  refine pl_no rfl rfl rfl rfl rfl rfl (by first | (simp only [cmpP]; omega) | (simp [cmpP]; done) | (simp [cmpP]; omega)) ?_
  (repeat (first | refine pl_pure hT rfl rfl rfl ?_ | refine pl_nil ?_ | refine rn_seq ?_ | refine rn_plain ?_ | refine rn_block ?_ | refine rn_inBlock ?_ | refine rn_skip ?_ | refine rn_true rfl ?_ | refine rn_false rfl ?_ | refine rn_exit rfl ?_ | refine pl_not rfl rfl ?_))
  refine rn_ind (fun m σ w' => ∃ (i : Nat) (acc : List Tok) (v : Value), i ≤ l.length ∧ m = l.length - i ∧ σ = [(0, .string (str l)), (3, .pointer (some ⟨b, 0, none⟩)), (4, v), (5, .int .i64 (i : Nat))] ∧ acc.length ≤ i ∧
    putT acc (toks l.length i (l.drop i)) = scanOf l ∧ Own w' w.heap.size 85 4 v acc.length (acc.flatMap tokL) ∧ Blk w' b [.int .i64 0, .int .i64 0] 28 ∧ Keep [] w w') l.length _ ?_
    ⟨0, [], _, by omega, by omega, rfl, by simp, by rw [putT_nil]; rfl, Own.nil _ _ _ _, hb1, hk1⟩ ?_
  · exact ⟨rfl, rfl, rfl, rfl, trivial⟩
  rintro m σ w2 ih ⟨i, acc, v, hi, rfl, rfl, hacc, hput, hown, hb2, hk2⟩
  (repeat (first | refine pl_pure hT rfl rfl rfl ?_ | refine pl_nil ?_ | refine rn_seq ?_ | refine rn_plain ?_ | refine rn_block ?_ | refine rn_inBlock ?_ | refine rn_skip ?_ | refine rn_true rfl ?_ | refine rn_false rfl ?_ | refine rn_exit rfl ?_ | refine pl_not rfl rfl ?_))
  refine pl_val _ rfl rfl (val_len l (by decide +kernel) rfl rfl w2) ?_
  by_cases hlt : i < l.length
  · obtain ⟨c, r, hdrop, hget, hdr⟩ := drop_at hlt
    have hlen : (c :: r).length ≤ l.length := by rw [← hdrop, List.length_drop]; omega
    have hlen2 : (c :: r).length = l.length - i := by rw [← hdrop, List.length_drop]
    simp only [List.length_cons] at hlen2
    refine pl_yes rfl rfl rfl rfl rfl (by first | (simp only [cmpP]; omega) | (simp [cmpP]; done) | (simp [cmpP]; omega)) ?_
    (repeat (first | refine pl_pure hT rfl rfl rfl ?_ | refine pl_nil ?_ | refine rn_seq ?_ | refine rn_plain ?_ | refine rn_block ?_ | refine rn_inBlock ?_ | refine rn_skip ?_ | refine rn_true rfl ?_ | refine rn_false rfl ?_ | refine rn_exit rfl ?_ | refine pl_not rfl rfl ?_))
    refine pl_val _ rfl rfl (val_byte l i c (by decide +kernel) rfl rfl rfl rfl hget w2) ?_
    (repeat (first | refine pl_pure hT rfl rfl rfl ?_ | refine pl_nil ?_ | refine rn_seq ?_ | refine rn_plain ?_ | refine rn_block ?_ | refine rn_inBlock ?_ | refine rn_skip ?_ | refine rn_true rfl ?_ | refine rn_false rfl ?_ | refine rn_exit rfl ?_ | refine pl_not rfl rfl ?_))
    refine pl_num (((i + 1 : Nat) : Int)) rfl rfl rfl rfl rfl (by simp only [ariP]; omega) ?_
    by_cases hbl : blankB c = true
    · have hn := hbl
      rw [blank_n] at hn
      simp only [Bool.or_eq_true, decide_eq_true_eq] at hn
      rcases hn with ((hn | hn) | hn) | hn
      all_goals
        (repeat (first | refine pl_pure hT rfl rfl rfl ?_ | refine pl_nil ?_ | refine rn_seq ?_ | refine rn_plain ?_ | refine rn_block ?_ | refine rn_inBlock ?_ | refine rn_skip ?_ | refine rn_true rfl ?_ | refine rn_false rfl ?_ | refine rn_exit rfl ?_ | refine pl_not rfl rfl ?_ | refine pl_val _ rfl rfl (val_load1 hT rfl rfl rfl (Blk.cell (by assumption) (by rfl))) ?_ | refine pl_yes rfl rfl rfl rfl rfl (by first | (simp only [cmpP]; omega) | (simp [cmpP]; done) | (simp [cmpP]; omega)) ?_ | refine pl_no rfl rfl rfl rfl rfl rfl (by first | (simp only [cmpP]; omega) | (simp [cmpP]; done) | (simp [cmpP]; omega)) ?_))
        refine rn_sub ?_ (ih _ _ _ ?_ ⟨i + 1, acc, v, hlt, rfl, rfl, by omega, ?_, hown, hb2, hk2⟩)
        · exact ⟨rfl, rfl, rfl, rfl, trivial⟩
        · omega
        · rw [hdrop, toks_skip (bit_blank c r hbl) hlen] at hput
          rw [hdr]
          exact hput
    have hbl' : blankB c = false := by simpa using hbl
    have hn : c.toNat ≠ 32 ∧ c.toNat ≠ 9 ∧ c.toNat ≠ 10 ∧ c.toNat ≠ 13 := by
      have h := hbl'
      rw [blank_n] at h
      simp only [Bool.or_eq_false_iff, decide_eq_false_iff_not] at h
      exact ⟨h.1.1.1, h.1.1.2, h.1.2, h.2⟩
    obtain ⟨hn1, hn2, hn3, hn4⟩ := hn
    have hwl := while_le letB r
    have hwd := while_le dig r
    by_cases hp : parenB c = true
    · have hbit := bit_paren (r := r) hbl' hp
      rw [paren_n, Bool.or_eq_true, decide_eq_true_eq, decide_eq_true_eq] at hp
      rcases hp with hp | hp
      all_goals
        (repeat (first | refine pl_pure hT rfl rfl rfl ?_ | refine pl_nil ?_ | refine rn_seq ?_ | refine rn_plain ?_ | refine rn_block ?_ | refine rn_inBlock ?_ | refine rn_skip ?_ | refine rn_true rfl ?_ | refine rn_false rfl ?_ | refine rn_exit rfl ?_ | refine pl_not rfl rfl ?_ | refine pl_val _ rfl rfl (val_load1 hT rfl rfl rfl (Blk.cell (by assumption) (by rfl))) ?_ | refine pl_yes rfl rfl rfl rfl rfl (by first | (simp only [cmpP]; omega) | (simp [cmpP]; done) | (simp [cmpP]; omega)) ?_ | refine pl_no rfl rfl rfl rfl rfl rfl (by first | (simp only [cmpP]; omega) | (simp [cmpP]; done) | (simp [cmpP]; omega)) ?_))
        have htl := bit_len hbit
        have hadd : i + ([c]).length ≤ l.length := by
          have := htl.2
          simp only [List.length_cons] at this ⊢
          omega
        refine pl_val _ rfl rfl (val_cut l i (i + ([c]).length) (by decide +kernel) rfl rfl rfl rfl rfl rfl (by omega) hadd w2) ?_
        rw [cut_tok hdrop hbit]
        (repeat (first | refine pl_pure hT rfl rfl rfl ?_ | refine pl_nil ?_ | refine rn_seq ?_ | refine rn_plain ?_ | refine rn_block ?_ | refine rn_inBlock ?_ | refine rn_skip ?_ | refine rn_true rfl ?_ | refine rn_false rfl ?_ | refine rn_exit rfl ?_ | refine pl_not rfl rfl ?_))
        refine pl_val _ rfl rfl (val_build _ rfl rfl (built_rtok2 ((i : Nat) : Int) (str ([c]))) w2) ?_
        refine pl_op rfl rfl (opTo_sliceN _ _ rfl rfl (slice_rtok _ _ _ _) ?_)
        intro w8 g8 hg8 hs8 hk8 hb8
        have hown8 := (hown).keep hk8 (by simp)
        have hF8 := hk8.blk hb2 (by simp)
        have hk08 := (hk2).tr hk8
        refine pl_op rfl rfl (opTo_app w.heap.size 85 4 40 (acc.flatMap tokL) (tokC ((i : Nat) : Int) ([c]) false 0) rfl rfl rfl (by decide +kernel) hown8 (hb8.range (by rfl)) rfl (tokC_one _ _ _ _) (by decide) (by simp only [maxLen]; omega) (by omega) hk08.size ?_)
        intro g9 cap9 w9 hown9 hor9
        have hk09 := app_tok hk08 hown8 hor9
        have hF9 := app_blk hF8 (own_ne hown8 hF8 (by decide)) hor9
        (repeat (first | refine pl_pure hT rfl rfl rfl ?_ | refine pl_nil ?_ | refine rn_seq ?_ | refine rn_plain ?_ | refine rn_block ?_ | refine rn_inBlock ?_ | refine rn_skip ?_ | refine rn_true rfl ?_ | refine rn_false rfl ?_ | refine rn_exit rfl ?_ | refine pl_not rfl rfl ?_))
        refine rn_sub ?_ (ih _ _ _ ?_ ⟨i + ([c]).length, acc ++ [⟨i, [c], false, 0⟩], .slice (some ⟨g9, 0, none⟩) (acc.length + 1) cap9, hadd, rfl, rfl, ?_, ?_, ?_, hF9, hk09⟩)
        · exact ⟨rfl, rfl, rfl, rfl, trivial⟩
        · have := htl.1
          omega
        · have := htl.1
          simp only [List.length_append, List.length_cons, List.length_nil] at this ⊢
          omega
        · rw [hdrop, putT_tok acc hbit hlen, ← hdrop, List.drop_drop] at hput
          exact hput
        · have e1 : (acc ++ [(⟨i, [c], false, 0⟩ : Tok)]).length = acc.length + 1 := by simp
          have e2 : (acc ++ [(⟨i, [c], false, 0⟩ : Tok)]).flatMap tokL = acc.flatMap tokL ++ tokC ((i : Nat) : Int) ([c]) false 0 := by
            rw [List.flatMap_append]
            rfl
          rw [e1, e2]
          exact hown9
    have hp' : parenB c = false := by simpa using hp
    have hpn : c.toNat ≠ 40 ∧ c.toNat ≠ 41 := by
      have h := hp'
      rw [paren_n] at h
      simpa using h
    obtain ⟨hp1, hp2⟩ := hpn
    (repeat (first | refine pl_pure hT rfl rfl rfl ?_ | refine pl_nil ?_ | refine rn_seq ?_ | refine rn_plain ?_ | refine rn_block ?_ | refine rn_inBlock ?_ | refine rn_skip ?_ | refine rn_true rfl ?_ | refine rn_false rfl ?_ | refine rn_exit rfl ?_ | refine pl_not rfl rfl ?_ | refine pl_val _ rfl rfl (val_load1 hT rfl rfl rfl (Blk.cell (by assumption) (by rfl))) ?_ | refine pl_yes rfl rfl rfl rfl rfl (by first | (simp only [cmpP]; omega) | (simp [cmpP]; done) | (simp [cmpP]; omega)) ?_ | refine pl_no rfl rfl rfl rfl rfl rfl (by first | (simp only [cmpP]; omega) | (simp [cmpP]; done) | (simp [cmpP]; omega)) ?_))
    refine pl_op rfl rfl (opTo_call (fst := []) (cap := []) rfl rfl rfl rfl (by decide +kernel) ((letterR_ret c w2).mono ?_))
    rintro x w3 ⟨rfl, rfl⟩
    cases hlet : letB c with
    | true =>
      have hbit := bit_word (r := r) hbl' hp' hlet
      (repeat (first | refine pl_pure hT rfl rfl rfl ?_ | refine pl_not rfl rfl ?_ | refine pl_nil ?_ | refine rn_inBlock ?_ | refine rn_skip ?_ | refine rn_true rfl ?_ | refine rn_false rfl ?_ | refine rn_exit rfl ?_))
      refine rn_seq ?_
      refine rn_with (fun σ' w' => w' = w3 ∧ ∃ j : Nat, j = i + (c :: r.takeWhile letB).length ∧ Sub [(0, .string (str l)), (3, .pointer (some ⟨b, 0, none⟩)), (4, v), (5, .int .i64 (i : Nat)), (7, .int .i64 (j : Nat))] σ') ?_ ?_
      rotate_left
      · intro fin
        refine rn_block ?_
        refine rn_ind (fun m σ w' => ∃ j : Nat, i + 1 ≤ j ∧ j ≤ l.length ∧ m = l.length - j ∧ σ = [(0, .string (str l)), (3, .pointer (some ⟨b, 0, none⟩)), (4, v), (5, .int .i64 (i : Nat)), (7, .int .i64 (j : Nat))] ∧ i + 1 + (r.takeWhile letB).length = j + ((l.drop j).takeWhile letB).length ∧ w' = w3) (l.length - (i + 1)) _ ?_
          ⟨i + 1, by omega, by omega, rfl, rfl, by rw [hdr], rfl⟩ ?_
        · exact ⟨rfl, rfl, rfl, rfl, rfl, trivial⟩
        rintro m σ w9 ih2 ⟨j, hj1, hj2, rfl, rfl, ht, rfl⟩
        (repeat (first | refine pl_pure hT rfl rfl rfl ?_ | refine pl_nil ?_ | refine rn_seq ?_ | refine rn_plain ?_ | refine rn_block ?_ | refine rn_inBlock ?_ | refine rn_skip ?_ | refine rn_true rfl ?_ | refine rn_false rfl ?_ | refine rn_exit rfl ?_ | refine pl_not rfl rfl ?_))
        refine pl_val _ rfl rfl (val_len l (by decide +kernel) rfl rfl w9) ?_
        by_cases hjl : j < l.length
        · refine pl_yes rfl rfl rfl rfl rfl (by first | (simp only [cmpP]; omega) | (simp [cmpP]; done) | (simp [cmpP]; omega)) ?_
          (repeat (first | refine pl_pure hT rfl rfl rfl ?_ | refine pl_nil ?_ | refine rn_seq ?_ | refine rn_plain ?_ | refine rn_block ?_ | refine rn_inBlock ?_ | refine rn_skip ?_ | refine rn_true rfl ?_ | refine rn_false rfl ?_ | refine rn_exit rfl ?_ | refine pl_not rfl rfl ?_))
          refine pl_val _ rfl rfl (val_byte l j l[j] (by decide +kernel) rfl rfl rfl rfl (List.getElem?_eq_getElem hjl) w9) ?_
          refine pl_op rfl rfl (opTo_call (fst := []) (cap := []) rfl rfl rfl rfl (by decide +kernel) ((letterR_ret l[j] w9).mono ?_))
          rintro x w10 ⟨rfl, rfl⟩
          rw [take_step hjl] at ht
          cases hpb : letB l[j] with
          | true =>
            rw [hpb, if_pos rfl, List.length_cons] at ht
            (repeat (first | refine pl_pure hT rfl rfl rfl ?_ | refine pl_nil ?_ | refine rn_seq ?_ | refine rn_plain ?_ | refine rn_block ?_ | refine rn_inBlock ?_ | refine rn_skip ?_ | refine rn_true rfl ?_ | refine rn_false rfl ?_ | refine rn_exit rfl ?_ | refine pl_not rfl rfl ?_))
            refine pl_num (((j + 1 : Nat) : Int)) rfl rfl rfl rfl rfl (by simp only [ariP]; omega) ?_
            (repeat (first | refine pl_pure hT rfl rfl rfl ?_ | refine pl_nil ?_ | refine rn_seq ?_ | refine rn_plain ?_ | refine rn_block ?_ | refine rn_inBlock ?_ | refine rn_skip ?_ | refine rn_true rfl ?_ | refine rn_false rfl ?_ | refine rn_exit rfl ?_ | refine pl_not rfl rfl ?_))
            refine rn_sub ?_ (ih2 _ _ _ ?_ ⟨j + 1, by omega, hjl, rfl, rfl, by omega, rfl⟩)
            · exact ⟨rfl, rfl, rfl, rfl, rfl, trivial⟩
            · omega
          | false =>
            rw [hpb, if_neg (by decide), List.length_nil] at ht
            (repeat (first | refine pl_pure hT rfl rfl rfl ?_ | refine pl_not rfl rfl ?_ | refine pl_nil ?_ | refine rn_inBlock ?_ | refine rn_skip ?_ | refine rn_true rfl ?_ | refine rn_false rfl ?_ | refine rn_exit rfl ?_))
            have ej : j = i + (c :: r.takeWhile letB).length := by simp only [List.length_cons]; omega
            exact fin _ _ ⟨rfl, j, ej, rfl, rfl, rfl, rfl, rfl, trivial⟩
        · refine pl_no rfl rfl rfl rfl rfl rfl (by first | (simp only [cmpP]; omega) | (simp [cmpP]; done) | (simp [cmpP]; omega)) ?_
          (repeat (first | refine pl_pure hT rfl rfl rfl ?_ | refine pl_not rfl rfl ?_ | refine pl_nil ?_ | refine rn_inBlock ?_ | refine rn_skip ?_ | refine rn_true rfl ?_ | refine rn_false rfl ?_ | refine rn_exit rfl ?_))
          have e : j = l.length := by omega
          rw [e, List.drop_length] at ht
          have ej : j = i + (c :: r.takeWhile letB).length := by
            simp only [List.length_cons]
            simp at ht
            omega
          exact fin _ _ ⟨rfl, j, ej, rfl, rfl, rfl, rfl, rfl, trivial⟩
      rintro σ' w5 ⟨rfl, j, rfl, hsub⟩
      refine rn_sub hsub ?_
      (repeat (first | refine pl_pure hT rfl rfl rfl ?_ | refine pl_nil ?_ | refine rn_seq ?_ | refine rn_plain ?_ | refine rn_block ?_ | refine rn_inBlock ?_ | refine rn_skip ?_ | refine rn_true rfl ?_ | refine rn_false rfl ?_ | refine rn_exit rfl ?_ | refine pl_not rfl rfl ?_))
      have htl := bit_len hbit
      have hadd : i + (c :: r.takeWhile letB).length ≤ l.length := by
        have := htl.2
        simp only [List.length_cons] at this ⊢
        omega
      refine pl_val _ rfl rfl (val_cut l i (i + (c :: r.takeWhile letB).length) (by decide +kernel) rfl rfl rfl rfl rfl rfl (by omega) hadd w5) ?_
      rw [cut_tok hdrop hbit]
      (repeat (first | refine pl_pure hT rfl rfl rfl ?_ | refine pl_nil ?_ | refine rn_seq ?_ | refine rn_plain ?_ | refine rn_block ?_ | refine rn_inBlock ?_ | refine rn_skip ?_ | refine rn_true rfl ?_ | refine rn_false rfl ?_ | refine rn_exit rfl ?_ | refine pl_not rfl rfl ?_))
      refine pl_val _ rfl rfl (val_build _ rfl rfl (built_rtok2 ((i : Nat) : Int) (str (c :: r.takeWhile letB))) w5) ?_
      refine pl_op rfl rfl (opTo_sliceN _ _ rfl rfl (slice_rtok _ _ _ _) ?_)
      intro w8 g8 hg8 hs8 hk8 hb8
      have hown8 := (hown).keep hk8 (by simp)
      have hF8 := hk8.blk hb2 (by simp)
      have hk08 := (hk2).tr hk8
      refine pl_op rfl rfl (opTo_app w.heap.size 85 4 40 (acc.flatMap tokL) (tokC ((i : Nat) : Int) (c :: r.takeWhile letB) false 0) rfl rfl rfl (by decide +kernel) hown8 (hb8.range (by rfl)) rfl (tokC_one _ _ _ _) (by decide) (by simp only [maxLen]; omega) (by omega) hk08.size ?_)
      intro g9 cap9 w9 hown9 hor9
      have hk09 := app_tok hk08 hown8 hor9
      have hF9 := app_blk hF8 (own_ne hown8 hF8 (by decide)) hor9
      (repeat (first | refine pl_pure hT rfl rfl rfl ?_ | refine pl_nil ?_ | refine rn_seq ?_ | refine rn_plain ?_ | refine rn_block ?_ | refine rn_inBlock ?_ | refine rn_skip ?_ | refine rn_true rfl ?_ | refine rn_false rfl ?_ | refine rn_exit rfl ?_ | refine pl_not rfl rfl ?_))
      refine rn_sub ?_ (ih _ _ _ ?_ ⟨i + (c :: r.takeWhile letB).length, acc ++ [⟨i, c :: r.takeWhile letB, false, 0⟩], .slice (some ⟨g9, 0, none⟩) (acc.length + 1) cap9, hadd, rfl, rfl, ?_, ?_, ?_, hF9, hk09⟩)
      · exact ⟨rfl, rfl, rfl, rfl, trivial⟩
      · have := htl.1
        omega
      · have := htl.1
        simp only [List.length_append, List.length_cons, List.length_nil] at this ⊢
        omega
      · rw [hdrop, putT_tok acc hbit hlen, ← hdrop, List.drop_drop] at hput
        exact hput
      · have e1 : (acc ++ [(⟨i, c :: r.takeWhile letB, false, 0⟩ : Tok)]).length = acc.length + 1 := by simp
        have e2 : (acc ++ [(⟨i, c :: r.takeWhile letB, false, 0⟩ : Tok)]).flatMap tokL = acc.flatMap tokL ++ tokC ((i : Nat) : Int) (c :: r.takeWhile letB) false 0 := by
          rw [List.flatMap_append]
          rfl
        rw [e1, e2]
        exact hown9
    | false =>
      (repeat (first | refine pl_pure hT rfl rfl rfl ?_ | refine pl_nil ?_ | refine rn_seq ?_ | refine rn_plain ?_ | refine rn_block ?_ | refine rn_inBlock ?_ | refine rn_skip ?_ | refine rn_true rfl ?_ | refine rn_false rfl ?_ | refine rn_exit rfl ?_ | refine pl_not rfl rfl ?_))
      refine pl_op rfl rfl (opTo_call (fst := []) (cap := []) rfl rfl rfl rfl (by decide +kernel) ((digitR_ret c w3).mono ?_))
      rintro x w4 ⟨rfl, rfl⟩
      by_cases hd : (dig c || c == 45) = true
      · have hbn := bit_num (r := r) hbl' hp' hlet hd
        have hd2 : dig c = true ∨ (dig c = false ∧ c.toNat = 45) := by
          rw [dash_n] at hd
          cases h : dig c with
          | true => exact .inl rfl
          | false => rw [h] at hd; exact .inr ⟨rfl, by simpa using hd⟩
        rcases hd2 with hdc | ⟨hdc, hdash⟩
        all_goals
          rw [hdc]
          (repeat (first | refine pl_pure hT rfl rfl rfl ?_ | refine pl_nil ?_ | refine rn_inBlock ?_ | refine rn_skip ?_ | refine rn_true rfl ?_ | refine rn_false rfl ?_ | refine rn_exit rfl ?_ | refine pl_not rfl rfl ?_ | refine pl_val _ rfl rfl (val_load1 hT rfl rfl rfl (Blk.cell (by assumption) (by rfl))) ?_ | refine pl_yes rfl rfl rfl rfl rfl (by first | (simp only [cmpP]; omega) | (simp [cmpP]; done) | (simp [cmpP]; omega)) ?_ | refine pl_no rfl rfl rfl rfl rfl rfl (by first | (simp only [cmpP]; omega) | (simp [cmpP]; done) | (simp [cmpP]; omega)) ?_))
          refine rn_seq ?_
          refine rn_with (fun σ' w' => w' = w4 ∧ ∃ j : Nat, j = i + (c :: r.takeWhile dig).length ∧ Sub [(0, .string (str l)), (3, .pointer (some ⟨b, 0, none⟩)), (4, v), (5, .int .i64 (i : Nat)), (7, .int .i64 (j : Nat))] σ') ?_ ?_
          rotate_left
          · intro fin
            refine rn_block ?_
            refine rn_ind (fun m σ w' => ∃ j : Nat, i + 1 ≤ j ∧ j ≤ l.length ∧ m = l.length - j ∧ σ = [(0, .string (str l)), (3, .pointer (some ⟨b, 0, none⟩)), (4, v), (5, .int .i64 (i : Nat)), (7, .int .i64 (j : Nat))] ∧ i + 1 + (r.takeWhile dig).length = j + ((l.drop j).takeWhile dig).length ∧ w' = w4) (l.length - (i + 1)) _ ?_
              ⟨i + 1, by omega, by omega, rfl, rfl, by rw [hdr], rfl⟩ ?_
            · exact ⟨rfl, rfl, rfl, rfl, rfl, trivial⟩
            rintro m σ w9 ih2 ⟨j, hj1, hj2, rfl, rfl, ht, rfl⟩
            (repeat (first | refine pl_pure hT rfl rfl rfl ?_ | refine pl_nil ?_ | refine rn_seq ?_ | refine rn_plain ?_ | refine rn_block ?_ | refine rn_inBlock ?_ | refine rn_skip ?_ | refine rn_true rfl ?_ | refine rn_false rfl ?_ | refine rn_exit rfl ?_ | refine pl_not rfl rfl ?_))
            refine pl_val _ rfl rfl (val_len l (by decide +kernel) rfl rfl w9) ?_
            by_cases hjl : j < l.length
            · refine pl_yes rfl rfl rfl rfl rfl (by first | (simp only [cmpP]; omega) | (simp [cmpP]; done) | (simp [cmpP]; omega)) ?_
              (repeat (first | refine pl_pure hT rfl rfl rfl ?_ | refine pl_nil ?_ | refine rn_seq ?_ | refine rn_plain ?_ | refine rn_block ?_ | refine rn_inBlock ?_ | refine rn_skip ?_ | refine rn_true rfl ?_ | refine rn_false rfl ?_ | refine rn_exit rfl ?_ | refine pl_not rfl rfl ?_))
              refine pl_val _ rfl rfl (val_byte l j l[j] (by decide +kernel) rfl rfl rfl rfl (List.getElem?_eq_getElem hjl) w9) ?_
              refine pl_op rfl rfl (opTo_call (fst := []) (cap := []) rfl rfl rfl rfl (by decide +kernel) ((digitR_ret l[j] w9).mono ?_))
              rintro x w10 ⟨rfl, rfl⟩
              rw [take_step hjl] at ht
              cases hpb : dig l[j] with
              | true =>
                rw [hpb, if_pos rfl, List.length_cons] at ht
                (repeat (first | refine pl_pure hT rfl rfl rfl ?_ | refine pl_nil ?_ | refine rn_seq ?_ | refine rn_plain ?_ | refine rn_block ?_ | refine rn_inBlock ?_ | refine rn_skip ?_ | refine rn_true rfl ?_ | refine rn_false rfl ?_ | refine rn_exit rfl ?_ | refine pl_not rfl rfl ?_))
                refine pl_num (((j + 1 : Nat) : Int)) rfl rfl rfl rfl rfl (by simp only [ariP]; omega) ?_
                (repeat (first | refine pl_pure hT rfl rfl rfl ?_ | refine pl_nil ?_ | refine rn_seq ?_ | refine rn_plain ?_ | refine rn_block ?_ | refine rn_inBlock ?_ | refine rn_skip ?_ | refine rn_true rfl ?_ | refine rn_false rfl ?_ | refine rn_exit rfl ?_ | refine pl_not rfl rfl ?_))
                refine rn_sub ?_ (ih2 _ _ _ ?_ ⟨j + 1, by omega, hjl, rfl, rfl, by omega, rfl⟩)
                · exact ⟨rfl, rfl, rfl, rfl, rfl, trivial⟩
                · omega
              | false =>
                rw [hpb, if_neg (by decide), List.length_nil] at ht
                (repeat (first | refine pl_pure hT rfl rfl rfl ?_ | refine pl_not rfl rfl ?_ | refine pl_nil ?_ | refine rn_inBlock ?_ | refine rn_skip ?_ | refine rn_true rfl ?_ | refine rn_false rfl ?_ | refine rn_exit rfl ?_))
                have ej : j = i + (c :: r.takeWhile dig).length := by simp only [List.length_cons]; omega
                exact fin _ _ ⟨rfl, j, ej, rfl, rfl, rfl, rfl, rfl, trivial⟩
            · refine pl_no rfl rfl rfl rfl rfl rfl (by first | (simp only [cmpP]; omega) | (simp [cmpP]; done) | (simp [cmpP]; omega)) ?_
              (repeat (first | refine pl_pure hT rfl rfl rfl ?_ | refine pl_not rfl rfl ?_ | refine pl_nil ?_ | refine rn_inBlock ?_ | refine rn_skip ?_ | refine rn_true rfl ?_ | refine rn_false rfl ?_ | refine rn_exit rfl ?_))
              have e : j = l.length := by omega
              rw [e, List.drop_length] at ht
              have ej : j = i + (c :: r.takeWhile dig).length := by
                simp only [List.length_cons]
                simp at ht
                omega
              exact fin _ _ ⟨rfl, j, ej, rfl, rfl, rfl, rfl, rfl, trivial⟩
          rintro σ' w5 ⟨rfl, j, rfl, hsub⟩
          refine rn_sub hsub ?_
          (repeat (first | refine pl_pure hT rfl rfl rfl ?_ | refine pl_nil ?_ | refine rn_seq ?_ | refine rn_plain ?_ | refine rn_block ?_ | refine rn_inBlock ?_ | refine rn_skip ?_ | refine rn_true rfl ?_ | refine rn_false rfl ?_ | refine rn_exit rfl ?_ | refine pl_not rfl rfl ?_))
          refine pl_val _ rfl rfl (val_cut l i (i + (c :: r.takeWhile dig).length) (by decide +kernel) rfl rfl rfl rfl rfl rfl (by omega) (by simp only [List.length_cons]; omega) w5) ?_
          have hcut : (l.drop i).take (i + (c :: r.takeWhile dig).length - i) = c :: r.takeWhile dig := by
            rw [hdrop, Nat.add_sub_cancel_left, List.length_cons, List.take_succ_cons, take_while]
          rw [hcut]
          refine pl_op rfl rfl (opTo_call (fst := []) (cap := []) rfl rfl rfl rfl (by decide +kernel) ((longR_ret (c :: r.takeWhile dig) (by simp only [List.length_cons]; omega) (hw.keep hk2)).mono ?_))
          rintro x w6 ⟨rfl, hk6⟩
          have hb6 := hk6.blk hb2 (by simp)
          have hown6 := hown.keep hk6 (by simp)
          have hk06 := hk2.tr hk6
          unfold longV
          cases hL : longOf (c :: r.takeWhile dig) with
          | none =>
            rw [hL] at hbn
            (repeat (first | refine pl_pure hT rfl rfl rfl ?_ | refine pl_nil ?_ | refine rn_seq ?_ | refine rn_plain ?_ | refine rn_block ?_ | refine rn_inBlock ?_ | refine rn_skip ?_ | refine rn_true rfl ?_ | refine rn_false rfl ?_ | refine rn_exit rfl ?_ | refine pl_not rfl rfl ?_))
            refine pl_op rfl rfl (opTo_call (fst := []) (cap := []) rfl rfl rfl rfl (by decide +kernel) ((faultR_ret 7 ((i : Nat) : Int) w6).mono ?_))
            rintro x w7 ⟨rfl, hk7⟩
            have hb7 := hk7.blk hb6 (by simp)
            (repeat (first | refine pl_pure hT rfl rfl rfl ?_ | refine pl_nil ?_ | refine rn_seq ?_ | refine rn_plain ?_ | refine rn_block ?_ | refine rn_inBlock ?_ | refine rn_skip ?_ | refine rn_true rfl ?_ | refine rn_false rfl ?_ | refine rn_exit rfl ?_ | refine pl_not rfl rfl ?_))
            refine pl_op rfl rfl (opTo_storeN [.int .i64 7, .int .i64 ((i : Nat) : Int)] rfl rfl rfl rfl size_fault hb7 (by simp) (one_fault _ _) ?_)
            intro w8 hs8 hk8 hb8
            rw [splice_whole (by rfl)] at hb8
            (repeat (first | refine pl_pure hT rfl rfl rfl ?_ | refine pl_nil ?_ | refine rn_seq ?_ | refine rn_plain ?_ | refine rn_block ?_ | refine rn_inBlock ?_ | refine rn_skip ?_ | refine rn_true rfl ?_ | refine rn_false rfl ?_ | refine rn_exit rfl ?_ | refine pl_not rfl rfl ?_))
            rw [hdrop, toks_bad hbn hlen] at hput
            obtain ⟨e1, e2⟩ := faultOf_error hgt hput.symm
            refine rn_retTC Tryz.func19 rfl rfl rfl (blk_loadVar hT hb8 rfl) ⟨.slice none 0 0, ?_, ?_, (hk06.tr hk7).trB hk8 (by omega)⟩
            · rw [e1]
            · rw [e2]
              exact Own.nil _ _ _ _
          | some z =>
            rw [hL] at hbn
            have hbit : bit c r = .tok (c :: r.takeWhile dig) true z := hbn
            (repeat (first | refine pl_pure hT rfl rfl rfl ?_ | refine pl_nil ?_ | refine rn_seq ?_ | refine rn_plain ?_ | refine rn_block ?_ | refine rn_inBlock ?_ | refine rn_skip ?_ | refine rn_true rfl ?_ | refine rn_false rfl ?_ | refine rn_exit rfl ?_ | refine pl_not rfl rfl ?_))
            have htl := bit_len hbit
            have hadd : i + (c :: r.takeWhile dig).length ≤ l.length := by
              have := htl.2
              simp only [List.length_cons] at this ⊢
              omega
            refine pl_val _ rfl rfl (val_cut l i (i + (c :: r.takeWhile dig).length) (by decide +kernel) rfl rfl rfl rfl rfl rfl (by omega) hadd w6) ?_
            rw [cut_tok hdrop hbit]
            (repeat (first | refine pl_pure hT rfl rfl rfl ?_ | refine pl_nil ?_ | refine rn_seq ?_ | refine rn_plain ?_ | refine rn_block ?_ | refine rn_inBlock ?_ | refine rn_skip ?_ | refine rn_true rfl ?_ | refine rn_false rfl ?_ | refine rn_exit rfl ?_ | refine pl_not rfl rfl ?_))
            refine pl_val _ rfl rfl (val_build _ rfl rfl (built_rtok4 ((i : Nat) : Int) (str (c :: r.takeWhile dig)) z) w6) ?_
            refine pl_op rfl rfl (opTo_sliceN _ _ rfl rfl (slice_rtok _ _ _ _) ?_)
            intro w8 g8 hg8 hs8 hk8 hb8
            have hown8 := (hown6).keep hk8 (by simp)
            have hF8 := hk8.blk hb6 (by simp)
            have hk08 := (hk06).tr hk8
            refine pl_op rfl rfl (opTo_app w.heap.size 85 4 40 (acc.flatMap tokL) (tokC ((i : Nat) : Int) (c :: r.takeWhile dig) true z) rfl rfl rfl (by decide +kernel) hown8 (hb8.range (by rfl)) rfl (tokC_one _ _ _ _) (by decide) (by simp only [maxLen]; omega) (by omega) hk08.size ?_)
            intro g9 cap9 w9 hown9 hor9
            have hk09 := app_tok hk08 hown8 hor9
            have hF9 := app_blk hF8 (own_ne hown8 hF8 (by decide)) hor9
            (repeat (first | refine pl_pure hT rfl rfl rfl ?_ | refine pl_nil ?_ | refine rn_seq ?_ | refine rn_plain ?_ | refine rn_block ?_ | refine rn_inBlock ?_ | refine rn_skip ?_ | refine rn_true rfl ?_ | refine rn_false rfl ?_ | refine rn_exit rfl ?_ | refine pl_not rfl rfl ?_))
            refine rn_sub ?_ (ih _ _ _ ?_ ⟨i + (c :: r.takeWhile dig).length, acc ++ [⟨i, c :: r.takeWhile dig, true, z⟩], .slice (some ⟨g9, 0, none⟩) (acc.length + 1) cap9, hadd, rfl, rfl, ?_, ?_, ?_, hF9, hk09⟩)
            · exact ⟨rfl, rfl, rfl, rfl, trivial⟩
            · have := htl.1
              omega
            · have := htl.1
              simp only [List.length_append, List.length_cons, List.length_nil] at this ⊢
              omega
            · rw [hdrop, putT_tok acc hbit hlen, ← hdrop, List.drop_drop] at hput
              exact hput
            · have e1 : (acc ++ [(⟨i, c :: r.takeWhile dig, true, z⟩ : Tok)]).length = acc.length + 1 := by simp
              have e2 : (acc ++ [(⟨i, c :: r.takeWhile dig, true, z⟩ : Tok)]).flatMap tokL = acc.flatMap tokL ++ tokC ((i : Nat) : Int) (c :: r.takeWhile dig) true z := by
                rw [List.flatMap_append]
                rfl
              rw [e1, e2]
              exact hown9
      · have hd' : (dig c || c == 45) = false := by simpa using hd
        have hbit := bit_none (r := r) hbl' hp' hlet hd'
        have hdc : dig c = false := by
          cases h : dig c with
          | true => rw [h] at hd'; cases hd'
          | false => rfl
        have hdash : c.toNat ≠ 45 := by
          rw [hdc, dash_n] at hd'
          simpa using hd'
        rw [hdc]
        (repeat (first | refine pl_pure hT rfl rfl rfl ?_ | refine pl_nil ?_ | refine rn_seq ?_ | refine rn_plain ?_ | refine rn_block ?_ | refine rn_inBlock ?_ | refine rn_skip ?_ | refine rn_true rfl ?_ | refine rn_false rfl ?_ | refine rn_exit rfl ?_ | refine pl_not rfl rfl ?_ | refine pl_val _ rfl rfl (val_load1 hT rfl rfl rfl (Blk.cell (by assumption) (by rfl))) ?_ | refine pl_yes rfl rfl rfl rfl rfl (by first | (simp only [cmpP]; omega) | (simp [cmpP]; done) | (simp [cmpP]; omega)) ?_ | refine pl_no rfl rfl rfl rfl rfl rfl (by first | (simp only [cmpP]; omega) | (simp [cmpP]; done) | (simp [cmpP]; omega)) ?_))
        refine pl_op rfl rfl (opTo_call (fst := []) (cap := []) rfl rfl rfl rfl (by decide +kernel) ((faultR_ret 7 ((i : Nat) : Int) w4).mono ?_))
        rintro x w7 ⟨rfl, hk7⟩
        have hb7 := hk7.blk hb2 (by simp)
        (repeat (first | refine pl_pure hT rfl rfl rfl ?_ | refine pl_nil ?_ | refine rn_seq ?_ | refine rn_plain ?_ | refine rn_block ?_ | refine rn_inBlock ?_ | refine rn_skip ?_ | refine rn_true rfl ?_ | refine rn_false rfl ?_ | refine rn_exit rfl ?_ | refine pl_not rfl rfl ?_))
        refine pl_op rfl rfl (opTo_storeN [.int .i64 7, .int .i64 ((i : Nat) : Int)] rfl rfl rfl rfl size_fault hb7 (by simp) (one_fault _ _) ?_)
        intro w8 hs8 hk8 hb8
        rw [splice_whole (by rfl)] at hb8
        (repeat (first | refine pl_pure hT rfl rfl rfl ?_ | refine pl_nil ?_ | refine rn_seq ?_ | refine rn_plain ?_ | refine rn_block ?_ | refine rn_inBlock ?_ | refine rn_skip ?_ | refine rn_true rfl ?_ | refine rn_false rfl ?_ | refine rn_exit rfl ?_ | refine pl_not rfl rfl ?_))
        rw [hdrop, toks_bad hbit hlen] at hput
        obtain ⟨e1, e2⟩ := faultOf_error hgt hput.symm
        refine rn_retTC Tryz.func19 rfl rfl rfl (blk_loadVar hT hb8 rfl) ⟨.slice none 0 0, ?_, ?_, (hk2.tr hk7).trB hk8 (by omega)⟩
        · rw [e1]
        · rw [e2]
          exact Own.nil _ _ _ _
  · refine pl_no rfl rfl rfl rfl rfl rfl (by first | (simp only [cmpP]; omega) | (simp [cmpP]; done) | (simp [cmpP]; omega)) ?_
    (repeat (first | refine pl_pure hT rfl rfl rfl ?_ | refine pl_nil ?_ | refine rn_seq ?_ | refine rn_plain ?_ | refine rn_block ?_ | refine rn_inBlock ?_ | refine rn_skip ?_ | refine rn_true rfl ?_ | refine rn_false rfl ?_ | refine rn_exit rfl ?_ | refine pl_not rfl rfl ?_))
    refine pl_val _ rfl rfl (val_build _ rfl rfl built_fault0 w2) ?_
    (repeat (first | refine pl_pure hT rfl rfl rfl ?_ | refine pl_nil ?_ | refine rn_seq ?_ | refine rn_plain ?_ | refine rn_block ?_ | refine rn_inBlock ?_ | refine rn_skip ?_ | refine rn_true rfl ?_ | refine rn_false rfl ?_ | refine rn_exit rfl ?_ | refine pl_not rfl rfl ?_))
    refine pl_op rfl rfl (opTo_storeN [.int .i64 0, .int .i64 0] rfl rfl rfl rfl size_fault hb2 (by simp) (one_fault _ _) ?_)
    intro w3 hs3 hk3 hb3
    rw [splice_whole (by rfl)] at hb3
    (repeat (first | refine pl_pure hT rfl rfl rfl ?_ | refine pl_nil ?_ | refine rn_seq ?_ | refine rn_plain ?_ | refine rn_block ?_ | refine rn_inBlock ?_ | refine rn_skip ?_ | refine rn_true rfl ?_ | refine rn_false rfl ?_ | refine rn_exit rfl ?_ | refine pl_not rfl rfl ?_))
    have hi' : i = l.length := by omega
    have hput2 : scanOf l = .ok acc := by
      rw [← hput, hi', List.drop_length]
      have : toks l.length l.length [] = .ok [] := by cases l.length <;> rfl
      rw [this]
      show Except.ok (acc ++ []) = _
      rw [List.append_nil]
    obtain ⟨e1, e2⟩ := faultOf_ok hgt hput2
    refine rn_retTC Tryz.func19 rfl rfl rfl (blk_loadVar hT hb3 rfl) ⟨v, ?_, ?_, hk2.trB hk3 (by omega)⟩
    · rw [e1]
    · rw [e2]
      exact hown.keep hk3 (by intro k hk; simp; exact fun h => own_ne hown hb2 (by decide) k hk h.symm)
end E
end Go.Proofs.YthbkcadiejfgaacGreatDoor

/- Rows of expressions and of statements that are being made; what both readers take of the program's types, and of the mathematics of reading. -/
namespace Go.Proofs.YthbkcadiejfgaacGreatDoor
set_option maxRecDepth 20000
set_option maxHeartbeats 4000000
namespace E
open Go.Proofs

section
variable {P : Program} {n : Nat} {σ : Env} {o : Oper}
theorem val_eqS {t t' : Nat} {x y : Operand} (a b : List UInt8) (r : Bool) (ho : o.op = .binOp .eql t x y t') (hx : ev σ x = some (.string (str a))) (hy : ev σ y = some (.string (str b))) (hr : (a == b) = r) (w : World) : Val P n σ o w (.bool r) :=
  val_eqStr (str a) (str b) r ho hx hy (by rw [str_toList, str_toList]; exact hr) w
end


theorem nameOk_str (l : List UInt8) : nameOk (str l) = nameB l := by
  unfold nameOk nameB
  rw [str_list, str_size]
  rfl

theorem findV_cons (x : VarT) (r : List VarT) (s : List UInt8) : findV (x :: r) s = if x.1.data.toList == s then some 0 else (findV r s).map (· + 1) := rfl

/-- What is owned is known. -/
theorem Own.eq {w : World} {B e size n : Nat} {v : Value} {xs ys : List Value} (h : Own w B e size v n xs) (h' : Own w B e size v n ys) : xs = ys := by
  rcases h.2 with ⟨_, h1⟩ | ⟨g1, c1, cur1, h1, _, hb1, _, _, ht1⟩
  · have l1 := h.1
    have l2 := h'.1
    rw [h1, Nat.zero_mul] at l1 l2
    have e1 : xs = [] := List.eq_nil_of_length_eq_zero l1
    have e2 : ys = [] := List.eq_nil_of_length_eq_zero l2
    rw [e1, e2]
  · rcases h'.2 with ⟨h2, _⟩ | ⟨g2, c2, cur2, h2, _, hb2, _, _, ht2⟩
    · rw [h2] at h1; cases h1
    · rw [h1] at h2
      injection h2 with h2 _ _
      injection h2 with h2
      injection h2 with h2 _ _
      subst h2
      unfold Blk at hb1 hb2
      rw [hb1] at hb2
      injection hb2 with hb2
      injection hb2 with hb2
      have hcc : cur1 = cur2 := by
        have := congrArg Array.toList hb2
        simpa using this
      rw [← ht1, ← ht2, hcc]
/-- A row of ET that is being made: in blocks from B on. -/
def RowE (w : World) (B : Nat) (v : Value) (l : List ET) : Prop :=
  ∃ (ccs : List (List Value)) (F : Nat → Prop), Own w B 41 4 v ccs.length ccs.flatten ∧ ccs.length = l.length ∧ (∀ i (hi : i < l.length), ExprV F w (ccs.getD i []) (l[i]'hi)) ∧ ∀ c, F c → B ≤ c ∧ c < w.heap.size ∧ v.ownBlock ≠ some c
theorem RowE.nil (w : World) (B : Nat) : RowE w B (.slice none 0 0) [] := ⟨[], fun _ => False, Own.nil _ _ _ _, rfl, fun i hi => by simp at hi, fun c h => h.elim⟩
theorem RowE.own {w : World} {B : Nat} {v : Value} {l : List ET} (h : RowE w B v l) : ∃ xs, Own w B 41 4 v l.length xs := by
  obtain ⟨ccs, F, ho, hl, _⟩ := h
  exact ⟨_, hl ▸ ho⟩
theorem RowE.keep {w w' : World} {B : Nat} {v : Value} {l : List ET} {fp : List Nat} (h : RowE w B v l) (hk : Keep fp w w') (hfp : ∀ c ∈ fp, c < B) : RowE w' B v l := by
  obtain ⟨ccs, F, ho, hl, hc, hF⟩ := h
  refine ⟨ccs, F, ho.keep hk (fun c hc' hm => by have := (ho.lt c hc').1; have := hfp c hm; omega), hl, fun i hi => (hc i hi).keep hk fun c hFc => ⟨(hF c hFc).2.1, fun hm => by have := hfp c hm; have := (hF c hFc).1; omega⟩, fun c hFc => ?_⟩
  have := hF c hFc
  exact ⟨this.1, Nat.lt_of_lt_of_le this.2.1 hk.size, this.2.2⟩
/-- One more, behind an append. -/
theorem RowE.app {w w' : World} {B : Nat} {v : Value} {l : List ET} {cs : List Value} {t : ET} {F' : Nat → Prop} {g cap : Nat} (h : RowE w B v l) (ht : ExprV F' w cs t) (hF' : ∀ c, F' c → B ≤ c ∧ c < w.heap.size ∧ v.ownBlock ≠ some c)
    (hn : ∀ xs, Own w B 41 4 v l.length xs → Own w' B 41 4 (.slice (some ⟨g, 0, none⟩) (l.length + 1) cap) (l.length + 1) (xs ++ cs))
    (hor : (v.ownBlock = some g ∧ l.length + 1 ≤ capOf v ∧ Keep [g] w w') ∨ (g = w.heap.size ∧ Keep [] w w' ∧ w'.heap.size = w.heap.size + 1)) : RowE w' B (.slice (some ⟨g, 0, none⟩) (l.length + 1) cap) (l ++ [t]) := by
  obtain ⟨ccs, F, ho, hl, hc, hF⟩ := h
  have hcs := ht.length
  have hG : ∀ c, F c ∨ F' c → B ≤ c ∧ c < w.heap.size ∧ c ≠ g := by
    intro c hc'
    have h1 : B ≤ c ∧ c < w.heap.size ∧ v.ownBlock ≠ some c := hc'.elim (hF c) (hF' c)
    refine ⟨h1.1, h1.2.1, fun e => ?_⟩
    rcases hor with ⟨h2, _⟩ | ⟨h2, _⟩
    · rw [e] at h1; exact h1.2.2 h2
    · omega
  have hst : ∀ fp, (fp = [g] ∨ fp = []) → Stays (fun c => F c ∨ F' c) w fp := by
    intro fp hfp c hc'
    refine ⟨(hG c hc').2.1, ?_⟩
    rcases hfp with rfl | rfl
    · simp; exact (hG c hc').2.2
    · simp
  have hkk : ∃ fp, (fp = [g] ∨ fp = []) ∧ Keep fp w w' := by
    rcases hor with ⟨_, _, h2⟩ | ⟨_, h2, _⟩
    · exact ⟨_, .inl rfl, h2⟩
    · exact ⟨_, .inr rfl, h2⟩
  obtain ⟨fp, hfp, hk⟩ := hkk
  refine ⟨ccs ++ [cs], fun c => F c ∨ F' c, ?_, by simp [hl], ?_, ?_⟩
  · have := hn _ (hl ▸ ho)
    have e1 : (ccs ++ [cs]).length = l.length + 1 := by simp [hl]
    have e2 : (ccs ++ [cs]).flatten = ccs.flatten ++ cs := by simp
    rw [e1, e2]
    exact this
  · intro i hi
    simp only [List.length_append, List.length_cons, List.length_nil] at hi
    by_cases hlt : i < l.length
    · have e1 : (ccs ++ [cs]).getD i [] = ccs.getD i [] := by
        rw [List.getD_eq_getElem?_getD, List.getD_eq_getElem?_getD, List.getElem?_append_left (by omega)]
      have e2 : (l ++ [t])[i]'(by simp; omega) = l[i] := List.getElem_append_left hlt
      rw [e1, e2]
      exact ((hc i hlt).mono fun c h => .inl h).keep hk (hst fp hfp)
    · obtain rfl : i = l.length := by omega
      have e1 : (ccs ++ [cs]).getD l.length [] = cs := by
        rw [List.getD_eq_getElem?_getD, ← hl, List.getElem?_append_right (Nat.le_refl _)]
        simp
      have e2 : (l ++ [t])[l.length]'(by simp) = t := by simp
      rw [e1, e2]
      exact (ht.mono fun c h => .inr h).keep hk (hst fp hfp)
  · intro c hc'
    have := hG c hc'
    refine ⟨this.1, Nat.lt_of_lt_of_le this.2.1 hk.size, ?_⟩
    show some g ≠ some c
    intro e
    injection e with e
    exact this.2.2 e.symm
theorem RowE.exprs {w : World} {B : Nat} {v : Value} {l : List ET} (h : RowE w B v l) : ∃ F : Nat → Prop, ExprsV F w v l ∧ ∀ c, F c → B ≤ c ∧ c < w.heap.size := by
  obtain ⟨ccs, F, ho, hl, hc, hF⟩ := h
  refine ⟨_, exprs_of_own ho hl hc, ?_⟩
  rintro c (h | h)
  · exact ho.lt c h
  · exact ⟨(hF c h).1, (hF c h).2.1⟩
/-- A row of ST that is being made: in blocks from B on. -/
def RowS (w : World) (B : Nat) (v : Value) (l : List ST) : Prop :=
  ∃ (ccs : List (List Value)) (F : Nat → Prop), Own w B 43 12 v ccs.length ccs.flatten ∧ ccs.length = l.length ∧ (∀ i (hi : i < l.length), StmtV F w (ccs.getD i []) (l[i]'hi)) ∧ ∀ c, F c → B ≤ c ∧ c < w.heap.size ∧ v.ownBlock ≠ some c
theorem RowS.nil (w : World) (B : Nat) : RowS w B (.slice none 0 0) [] := ⟨[], fun _ => False, Own.nil _ _ _ _, rfl, fun i hi => by simp at hi, fun c h => h.elim⟩
theorem RowS.own {w : World} {B : Nat} {v : Value} {l : List ST} (h : RowS w B v l) : ∃ xs, Own w B 43 12 v l.length xs := by
  obtain ⟨ccs, F, ho, hl, _⟩ := h
  exact ⟨_, hl ▸ ho⟩
theorem RowS.keep {w w' : World} {B : Nat} {v : Value} {l : List ST} {fp : List Nat} (h : RowS w B v l) (hk : Keep fp w w') (hfp : ∀ c ∈ fp, c < B) : RowS w' B v l := by
  obtain ⟨ccs, F, ho, hl, hc, hF⟩ := h
  refine ⟨ccs, F, ho.keep hk (fun c hc' hm => by have := (ho.lt c hc').1; have := hfp c hm; omega), hl, fun i hi => (hc i hi).keep hk fun c hFc => ⟨(hF c hFc).2.1, fun hm => by have := hfp c hm; have := (hF c hFc).1; omega⟩, fun c hFc => ?_⟩
  have := hF c hFc
  exact ⟨this.1, Nat.lt_of_lt_of_le this.2.1 hk.size, this.2.2⟩
/-- One more, behind an append. -/
theorem RowS.app {w w' : World} {B : Nat} {v : Value} {l : List ST} {cs : List Value} {t : ST} {F' : Nat → Prop} {g cap : Nat} (h : RowS w B v l) (ht : StmtV F' w cs t) (hF' : ∀ c, F' c → B ≤ c ∧ c < w.heap.size ∧ v.ownBlock ≠ some c)
    (hn : ∀ xs, Own w B 43 12 v l.length xs → Own w' B 43 12 (.slice (some ⟨g, 0, none⟩) (l.length + 1) cap) (l.length + 1) (xs ++ cs))
    (hor : (v.ownBlock = some g ∧ l.length + 1 ≤ capOf v ∧ Keep [g] w w') ∨ (g = w.heap.size ∧ Keep [] w w' ∧ w'.heap.size = w.heap.size + 1)) : RowS w' B (.slice (some ⟨g, 0, none⟩) (l.length + 1) cap) (l ++ [t]) := by
  obtain ⟨ccs, F, ho, hl, hc, hF⟩ := h
  have hcs := ht.length
  have hG : ∀ c, F c ∨ F' c → B ≤ c ∧ c < w.heap.size ∧ c ≠ g := by
    intro c hc'
    have h1 : B ≤ c ∧ c < w.heap.size ∧ v.ownBlock ≠ some c := hc'.elim (hF c) (hF' c)
    refine ⟨h1.1, h1.2.1, fun e => ?_⟩
    rcases hor with ⟨h2, _⟩ | ⟨h2, _⟩
    · rw [e] at h1; exact h1.2.2 h2
    · omega
  have hst : ∀ fp, (fp = [g] ∨ fp = []) → Stays (fun c => F c ∨ F' c) w fp := by
    intro fp hfp c hc'
    refine ⟨(hG c hc').2.1, ?_⟩
    rcases hfp with rfl | rfl
    · simp; exact (hG c hc').2.2
    · simp
  have hkk : ∃ fp, (fp = [g] ∨ fp = []) ∧ Keep fp w w' := by
    rcases hor with ⟨_, _, h2⟩ | ⟨_, h2, _⟩
    · exact ⟨_, .inl rfl, h2⟩
    · exact ⟨_, .inr rfl, h2⟩
  obtain ⟨fp, hfp, hk⟩ := hkk
  refine ⟨ccs ++ [cs], fun c => F c ∨ F' c, ?_, by simp [hl], ?_, ?_⟩
  · have := hn _ (hl ▸ ho)
    have e1 : (ccs ++ [cs]).length = l.length + 1 := by simp [hl]
    have e2 : (ccs ++ [cs]).flatten = ccs.flatten ++ cs := by simp
    rw [e1, e2]
    exact this
  · intro i hi
    simp only [List.length_append, List.length_cons, List.length_nil] at hi
    by_cases hlt : i < l.length
    · have e1 : (ccs ++ [cs]).getD i [] = ccs.getD i [] := by
        rw [List.getD_eq_getElem?_getD, List.getD_eq_getElem?_getD, List.getElem?_append_left (by omega)]
      have e2 : (l ++ [t])[i]'(by simp; omega) = l[i] := List.getElem_append_left hlt
      rw [e1, e2]
      exact ((hc i hlt).mono fun c h => .inl h).keep hk (hst fp hfp)
    · obtain rfl : i = l.length := by omega
      have e1 : (ccs ++ [cs]).getD l.length [] = cs := by
        rw [List.getD_eq_getElem?_getD, ← hl, List.getElem?_append_right (Nat.le_refl _)]
        simp
      have e2 : (l ++ [t])[l.length]'(by simp) = t := by simp
      rw [e1, e2]
      exact (ht.mono fun c h => .inr h).keep hk (hst fp hfp)
  · intro c hc'
    have := hG c hc'
    refine ⟨this.1, Nat.lt_of_lt_of_le this.2.1 hk.size, ?_⟩
    show some g ≠ some c
    intro e
    injection e with e
    exact this.2.2 e.symm
theorem RowS.stmts {w : World} {B : Nat} {v : Value} {l : List ST} (h : RowS w B v l) : ∃ F : Nat → Prop, StmtsV F w v l ∧ ∀ c, F c → B ≤ c ∧ c < w.heap.size := by
  obtain ⟨ccs, F, ho, hl, hc, hF⟩ := h
  refine ⟨_, stmts_of_own ho hl hc, ?_⟩
  rintro c (h | h)
  · exact ho.lt c h
  · exact ⟨(hF c h).1, (hF c h).2.1⟩

theorem zero_ex : ((Tryz.prog.info? 41).bind (·.zero)).map (·.cells) = some [Value.int .i64 0, .int .i64 0, .int .i64 0, .slice none 0 0].toArray := by kernel_rfl
theorem built_expr (op : Int) : Tryz.prog.built 41 [(0, .int .i64 op)] = some [Value.int .i64 op, .int .i64 0, .int .i64 0, .slice none 0 0].toArray := by kernel_rfl
theorem size_expr : sizeOk Tryz.prog 41 4 = true := by kernel_rfl
theorem size_long : sizeOk Tryz.prog 2 1 = true := by kernel_rfl
theorem size_exprs : sizeOk Tryz.prog 39 1 = true := by kernel_rfl
theorem slice_one (a b c d : Value) : sliceCells Tryz.prog 39 1 [(0, .agg #[a, b, c, d])] = some (41, #[a, b, c, d]) := by kernel_rfl
/-- The cells of an expression. -/
def xC (op v n : Int) (sl : Value) : List Value := [.int .i64 op, .int .i64 v, .int .i64 n, sl]
theorem xC_one {op v n : Int} {sl : Value} (h : sl.oneCell' = true) : ∀ u ∈ xC op v n sl, u.oneCell' = true := by
  intro u hu
  simp only [xC, List.mem_cons, List.not_mem_nil, or_false] at hu
  rcases hu with rfl | rfl | rfl | rfl
  · rfl
  · rfl
  · rfl
  · exact h

section
variable (ts : List Tok) (fin : Nat) (vs : List VarT) (one : Nat → Except Flt (ET × Nat))
def rest4 (k : Nat) (n : Int) (v : Nat) (l : List ET) (i4 : Nat) : Except Flt (ET × Nat) := bnd (mustP ts fin [41] i4) fun i5 => .ok (.mk (k : Nat) (v : Nat) n l, i5)
def rest3 (k : Nat) (n : Int) (v i3 : Nat) : Except Flt (ET × Nat) := bnd (manyP one (partsOf (k : Nat)).toNat i3) fun (l, i4) => rest4 ts fin k n v l i4
def rest2 (k : Nat) (n : Int) (i2 : Nat) : Except Flt (ET × Nat) := bnd (if k = 2 ∨ k = 3 then varP ts fin vs i2 else .ok (0, i2)) fun (v, i3) => rest3 ts fin one k n v i3
def rest1 (k i1 : Nat) : Except Flt (ET × Nat) := bnd (if k = 1 then numP ts fin i1 else .ok (0, i1)) fun (n, i2) => rest2 ts fin vs one k n i2
end
theorem exprP_eq (ts : List Tok) (fin : Nat) (vs : List VarT) {f deep : Nat} (h : deep + f = 13) (i : Nat) : exprP ts fin vs f i =
    bnd (bnd (if 12 < deep then .error (wrongAt ts fin 4 i) else .ok i) (beginP ts fin wordT 8)) fun (k, i1) => rest1 ts fin vs (exprP ts fin vs (f - 1)) k i1 := by
  cases f with
  | zero =>
    rw [if_pos (by omega)]
    rfl
  | succ f =>
    rw [if_neg (by omega)]
    rfl
def sndX {α : Type} (x : Except Flt (α × Nat)) : Except Flt Nat := bnd x fun p => .ok p.2


theorem partsOf_range (k : Nat) (h1 : 1 ≤ k) (h8 : k ≤ 8) : 0 ≤ partsOf (k : Nat) ∧ partsOf (k : Nat) ≤ 2 := by
  unfold partsOf
  repeat' split
  all_goals omega


theorem slice_stmt (a b c d e f g h i j k l : Value) : sliceCells Tryz.prog 24 1 [(0, .agg #[a, b, c, d, e, f, g, h, i, j, k, l])] = some (43, #[a, b, c, d, e, f, g, h, i, j, k, l]) := by kernel_rfl
theorem list12 {cs : List Value} (h : cs.length = 12) : ∃ a b c d e f g h i j k l, cs = [a, b, c, d, e, f, g, h, i, j, k, l] := by
  match cs, h with
  | [a, b, c, d, e, f, g, h, i, j, k, l], _ => exact ⟨a, b, c, d, e, f, g, h, i, j, k, l, rfl⟩


def zx : List Value := [.int .i64 0, .int .i64 0, .int .i64 0, .slice none 0 0]
def zst : List Value := scells 0 0 zx zx (.slice none 0 0) (.slice none 0 0)
theorem zero_st : ((Tryz.prog.info? 43).bind (·.zero)).map (·.cells) = some zst.toArray := by kernel_rfl
theorem built_st (op : Int) : Tryz.prog.built 43 [(0, .int .i64 op)] = some (scells op 0 zx zx (.slice none 0 0) (.slice none 0 0)).toArray := by kernel_rfl
theorem size_st : sizeOk Tryz.prog 43 12 = true := by kernel_rfl
theorem size_sts : sizeOk Tryz.prog 24 1 = true := by kernel_rfl

section
variable (ts : List Tok) (fin : Nat) (vs : List VarT) (ex : Nat → Except Flt (ET × Nat)) (one : Nat → Except Flt (ST × Nat))
def st6 (k v : Nat) (e g : ET) (b o : List ST) (i : Nat) : Except Flt (ST × Nat) := bnd (mustP ts fin [41] i) fun i7 => .ok (.mk (k : Nat) (v : Nat) e g b o, i7)
def st5 (k v : Nat) (e g : ET) (b : List ST) (i : Nat) : Except Flt (ST × Nat) := bnd (if needO (k : Nat) then listP ts fin one i else .ok ([], i)) fun (o, i6) => st6 ts fin k v e g b o i6
def st4 (k v : Nat) (e g : ET) (i : Nat) : Except Flt (ST × Nat) := bnd (if needB (k : Nat) then listP ts fin one i else .ok ([], i)) fun (b, i5) => st5 ts fin one k v e g b i5
def st3 (k v : Nat) (e : ET) (i : Nat) : Except Flt (ST × Nat) := bnd (if needF (k : Nat) then ex i else .ok (zeroT, i)) fun (g, i4) => st4 ts fin one k v e g i4
def st2 (k v : Nat) (i : Nat) : Except Flt (ST × Nat) := bnd (if needE (k : Nat) then ex i else .ok (zeroT, i)) fun (e, i3) => st3 ts fin ex one k v e i3
def st1 (k i : Nat) : Except Flt (ST × Nat) := bnd (if needV (k : Nat) then varP ts fin vs i else .ok (0, i)) fun (v, i2) => st2 ts fin ex one k v i2
end
theorem stmtP_eq (ts : List Tok) (fin : Nat) (vs : List VarT) {f deep : Nat} (h : deep + f = 13) (i : Nat) : stmtP ts fin vs f i =
    bnd (bnd (if 12 < deep then .error (wrongAt ts fin 4 i) else .ok i) (beginP ts fin verbT 7)) fun (k, i1) => st1 ts fin vs (exprP ts fin vs (f - 1)) (stmtP ts fin vs (f - 1)) k i1 := by
  cases f with
  | zero =>
    rw [if_pos (by omega)]
    rfl
  | succ f =>
    rw [if_neg (by omega)]
    rfl

/-- The parts of a statement that is being made: in blocks from B on. -/
def Gd (w : World) (B : Nat) (e g : ET) (lb lo : List ST) (ce cf : List Value) (bv ov : Value) : Prop :=
  ∃ F : Nat → Prop, (∀ c, F c → B ≤ c ∧ c < w.heap.size) ∧ ExprV F w ce e ∧ ExprV F w cf g ∧ StmtsV F w bv lb ∧ StmtsV F w ov lo
/-- That the cells are such as cells are. -/
structure Fm (ce cf : List Value) (bv ov : Value) : Prop where
  le : ce.length = 4
  lf : cf.length = 4
  oe : ∀ u ∈ ce, u.oneCell' = true
  of : ∀ u ∈ cf, u.oneCell' = true
  bv : bv.oneCell' = true
  ov : ov.oneCell' = true
section
variable {w w' : World} {B : Nat} {e g : ET} {lb lo : List ST} {ce cf : List Value} {bv ov : Value}
theorem Gd.keep {fp : List Nat} (h : Gd w B e g lb lo ce cf bv ov) (hk : Keep fp w w') (hfp : ∀ c ∈ fp, c < B) : Gd w' B e g lb lo ce cf bv ov := by
  obtain ⟨F, hF, h1, h2, h3, h4⟩ := h
  have hs : Stays F w fp := fun c hc => ⟨(hF c hc).2, fun hm => by have := hfp c hm; have := (hF c hc).1; omega⟩
  exact ⟨F, fun c hc => ⟨(hF c hc).1, Nat.lt_of_lt_of_le (hF c hc).2 hk.size⟩, h1.keep hk hs, h2.keep hk hs, h3.keep hk hs, h4.keep hk hs⟩
theorem zx_v {F : Nat → Prop} : ExprV F w zx zeroT := ExprV.of ExprsV.nil
theorem Gd.zero : Gd w B zeroT zeroT [] [] zx zx (.slice none 0 0) (.slice none 0 0) := ⟨fun _ => False, fun _ h => h.elim, zx_v, zx_v, StmtsV.nil, StmtsV.nil⟩
theorem Fm.zero : Fm zx zx (.slice none 0 0) (.slice none 0 0) :=
  ⟨rfl, rfl, by intro u hu; simp [zx] at hu; rcases hu with rfl | rfl <;> rfl, by intro u hu; simp [zx] at hu; rcases hu with rfl | rfl <;> rfl, rfl, rfl⟩
theorem scells_one {op v : Int} (h : Fm ce cf bv ov) : ∀ u ∈ scells op v ce cf bv ov, u.oneCell' = true := by
  intro u hu
  simp only [scells, List.mem_append, List.mem_cons, List.not_mem_nil, or_false] at hu
  rcases hu with (((rfl | rfl) | hu) | hu) | (rfl | rfl)
  · rfl
  · rfl
  · exact h.oe u hu
  · exact h.of u hu
  · exact h.bv
  · exact h.ov
theorem scells_len {op v : Int} (h : Fm ce cf bv ov) : (scells op v ce cf bv ov).length = 12 := by simp [scells, h.le, h.lf]
end
section
variable {op v : Int} {ce cf : List Value} {bv ov : Value}
theorem sp_v (v' : Int) : splice (scells op v ce cf bv ov) 1 [.int .i64 v'] = scells op v' ce cf bv ov := rfl
theorem sp_e (h : Fm ce cf bv ov) {cs : List Value} (hc : cs.length = 4) : splice (scells op v ce cf bv ov) 2 cs = scells op v cs cf bv ov := by
  obtain ⟨a, b, c, d, rfl⟩ := list4 h.le
  obtain ⟨a', b', c', d', rfl⟩ := list4 h.lf
  obtain ⟨x, y, z, t, rfl⟩ := list4 hc
  rfl
theorem sp_f (h : Fm ce cf bv ov) {cs : List Value} (hc : cs.length = 4) : splice (scells op v ce cf bv ov) 6 cs = scells op v ce cs bv ov := by
  obtain ⟨a, b, c, d, rfl⟩ := list4 h.le
  obtain ⟨a', b', c', d', rfl⟩ := list4 h.lf
  obtain ⟨x, y, z, t, rfl⟩ := list4 hc
  rfl
theorem sp_b (h : Fm ce cf bv ov) (x : Value) : splice (scells op v ce cf bv ov) 10 [x] = scells op v ce cf x ov := by
  obtain ⟨a, b, c, d, rfl⟩ := list4 h.le
  obtain ⟨a', b', c', d', rfl⟩ := list4 h.lf
  rfl
theorem sp_o (h : Fm ce cf bv ov) (x : Value) : splice (scells op v ce cf bv ov) 11 [x] = scells op v ce cf bv x := by
  obtain ⟨a, b, c, d, rfl⟩ := list4 h.le
  obtain ⟨a', b', c', d', rfl⟩ := list4 h.lf
  rfl
end


theorem built_v1 (s : ByteArray) : Tryz.prog.built 57 [(0, .string s)] = some [Value.string s, .int .i64 0].toArray := by kernel_rfl
theorem zero_v : ((Tryz.prog.info? 57).bind (·.zero)).map (·.cells) = some [Value.string ⟨#[]⟩, .int .i64 0].toArray := by kernel_rfl
theorem size_v : sizeOk Tryz.prog 57 2 = true := by kernel_rfl
theorem size_vs : sizeOk Tryz.prog 23 1 = true := by kernel_rfl
theorem slice_v (a b : Value) : sliceCells Tryz.prog 23 1 [(0, .agg #[a, b])] = some (57, #[a, b]) := by kernel_rfl


theorem toks_bound : ∀ {ts : List Tok} {m : Nat}, fine ts → textLen ts ≤ m → ts.length ≤ m ∧ ∀ t ∈ ts, t.text.length ≤ m
  | [], _, _, _ => ⟨Nat.zero_le _, fun t ht => by simp at ht⟩
  | x :: r, m, h, hm => by
    obtain ⟨⟨c, u, r0, h1, _⟩, h2⟩ := h
    simp only [textLen] at hm
    obtain ⟨i1, i2⟩ := toks_bound (m := m - x.text.length) h2 (by omega)
    rw [h1] at hm i1
    simp only [List.length_cons] at hm i1
    refine ⟨by simp only [List.length_cons]; omega, fun t ht => ?_⟩
    rcases List.mem_cons.1 ht with rfl | ht
    · rw [h1]; simp only [List.length_cons]; omega
    · have := i2 t ht
      omega
theorem scan_good {l : List UInt8} (h : (faultOf l).1 = 0) : l.length ≤ 6000 ∧ faultOf l = (0, 0) ∧ (toksOf l).length ≤ l.length ∧ ∀ t ∈ toksOf l, t.text.length ≤ l.length := by
  have hl : l.length ≤ 6000 := by
    by_cases hn : 6000 < l.length
    · unfold faultOf at h
      rw [if_pos hn] at h
      cases h
    · omega
  rcases fault_cases l hl with ⟨e, h1, _⟩ | ⟨ts, h1, h2, h3⟩
  · rw [h1] at h; cases h
  · have ⟨e1, e2⟩ := toks_fine _ _ _ _ h1
    rw [h3]
    exact ⟨hl, h2, toks_bound e1 e2⟩


def finP (vs : List VarT) (b : List ST) : Except Flt (List VarT × List ST) := if progFault vs b ≠ 0 then .error (progFault vs b, -1) else .ok (vs, b)

def restB (ts : List Tok) (fin : Nat) (vs : List VarT) (i : Nat) : Except Flt (List VarT × List ST) := bnd (bodyP ts fin vs i) fun q => finP vs q.1

theorem vars_own {w : World} {B e : Nat} {v : Value} {vs : List VarT} (h : Own w B e 2 v vs.length (vs.flatMap vcell)) : VarsV (fun c => v.ownBlock = some c) w v vs := by
  rcases h.2 with ⟨hv, h0⟩ | ⟨g, cap, cur, hv, hB, hb, hc, hl, ht⟩
  · have : vs = [] := List.eq_nil_of_length_eq_zero h0
    subst this
    exact ⟨none, 0, hv, by simp, fun h => absurd h (by simp)⟩
  · refine ⟨_, cap, hv, hc, fun h0 => ⟨g, 0, rfl, by rw [hv]; rfl, fun i hi => ?_⟩⟩
    have hx : vs[i]? = some vs[i] := List.getElem?_eq_getElem hi
    have hf := flat_at (f := vcell) (k := 2) (fun p _ => rfl) hx
    show w.rangeAt g (0 + i * 2) (vcell (vs.getD i (ByteArray.empty, 0)))
    rw [List.getD_eq_getElem?_getD, hx]
    rw [Nat.zero_add]
    refine hb.range ?_
    show (cur.drop (i * 2)).take 2 = vcell vs[i]
    rw [← hf, ← ht, List.drop_take, List.take_take, Nat.min_eq_left (by omega)]

end E
end Go.Proofs.YthbkcadiejfgaacGreatDoor
