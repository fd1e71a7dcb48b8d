/- Contract of Scan. -/
import Derived.Test.YthidfgolcibcoacDoorTkC
namespace Go.Proofs.YthidfgolcibcoacDoor
set_option maxRecDepth 20000
set_option maxHeartbeats 4000000
namespace E
open Go.Proofs

/-- What Scan tells: a fault, or none, and the tokens. -/
def faultOf (l : List UInt8) : Int × Int :=
  if 6000 < l.length then (3, 6000) else match scanOf l with
    | .error e => (7, ((e : Nat) : Int))
    | .ok _ => (0, 0)
def toksOf (l : List UInt8) : List Tok :=
  if 6000 < l.length then [] else match scanOf l with
    | .error _ => []
    | .ok ts => ts

theorem zero_fault : ((Tryd.prog.info? 25).bind (·.zero)).map (·.cells) = some [Value.int .i64 0, .int .i64 0].toArray := by kernel_rfl
theorem built_fault (a b : Int) : Tryd.prog.built 25 [(0, .int .i64 a), (1, .int .i64 b)] = some [Value.int .i64 a, .int .i64 b].toArray := by kernel_rfl
theorem built_fault0 : Tryd.prog.built 25 [] = some [Value.int .i64 0, .int .i64 0].toArray := by kernel_rfl
theorem size_fault : sizeOk Tryd.prog 25 2 = true := by kernel_rfl
theorem one_fault (a b : Int) : ∀ u ∈ [Value.int .i64 a, .int .i64 b], u.oneCell' = true := by
  intro u hu
  simp only [List.mem_cons, List.not_mem_nil, or_false] at hu
  rcases hu with rfl | rfl <;> rfl
theorem slice_tok (a b c d : Value) : sliceCells Tryd.prog 23 1 [(0, .agg #[a, b, c, d])] = some (32, #[a, b, c, d]) := by kernel_rfl

/-- The bytes from a place on, where one is there. -/
theorem drop_at {l : List UInt8} {i : Nat} (h : i < l.length) : ∃ c r, l.drop i = c :: r ∧ l[i]? = some c ∧ l.drop (i + 1) = r := by
  refine ⟨l[i], l.drop (i + 1), List.drop_eq_getElem_cons h, List.getElem?_eq_getElem h, rfl⟩

theorem app_tok {w0 w w' : World} {e size ln m g : Nat} {v : Value} {xs : List Value} (hk : Keep [] w0 w) (ho : Own w w0.heap.size e size v ln xs)
    (hor : (v.ownBlock = some g ∧ ln + m ≤ capOf v ∧ Keep [g] w w') ∨ (g = w.heap.size ∧ Keep [] w w' ∧ w'.heap.size = w.heap.size + 1)) : Keep [] w0 w' := by
  rcases hor with ⟨h1, _, h2⟩ | ⟨_, h2, _⟩
  · exact hk.trB h2 (ho.lt g h1).1
  · exact hk.tr h2
theorem app_blk {w w' : World} {ln m g b : Nat} {v : Value} {L : List Value} {t : TypeId} (hb : Blk w b L t) (hne : ∀ k, v.ownBlock = some k → b ≠ k)
    (hor : (v.ownBlock = some g ∧ ln + m ≤ capOf v ∧ Keep [g] w w') ∨ (g = w.heap.size ∧ Keep [] w w' ∧ w'.heap.size = w.heap.size + 1)) : Blk w' b L t := by
  rcases hor with ⟨h1, _, h2⟩ | ⟨_, h2, _⟩
  · exact h2.blk hb (by simp; exact hne g h1)
  · exact h2.blk hb (by simp)
/-- A block of another type is not the row's. -/
theorem own_ne {w : World} {B e size ln b : Nat} {v : Value} {xs L : List Value} {t : TypeId} (ho : Own w B e size v ln xs) (hb : Blk w b L t) (hne : t ≠ e) : ∀ k, v.ownBlock = some k → b ≠ k := by
  intro k hk
  rcases ho.2 with ⟨rfl, _⟩ | ⟨g, cap, cur, rfl, _, hg, _⟩
  · simp [Value.ownBlock] at hk
  · simp [Value.ownBlock] at hk
    subst hk
    exact hb.ne hg hne

theorem bit_len {c : UInt8} {r t : List UInt8} {b : Bool} {v : Int} (h : bit c r = .tok t b v) : 1 ≤ t.length ∧ t.length ≤ (c :: r).length := by
  obtain ⟨u, q, rfl, rfl, _⟩ := bit_tok h
  simp only [List.length_cons, List.length_append]
  omega

theorem bit_not_skip {c : UInt8} {r : List UInt8} (hbl : blankB c = false) : bit c r ≠ .skip := by
  intro hbit
  unfold bit at hbit
  rw [hbl] at hbit
  split at hbit
  · rename_i h; cases h
  · split at hbit
    · cases hbit
    · split at hbit
      · cases hbit
      · split at hbit
        · split at hbit <;> cases hbit
        · cases hbit
theorem size_int : sizeOk Tryd.prog 3 1 = true := by kernel_rfl
theorem faultOf_error {l : List UInt8} {e : Nat} (hn : ¬ 6000 < l.length) (h : scanOf l = .error e) : faultOf l = (7, ((e : Nat) : Int)) ∧ toksOf l = [] := by
  unfold faultOf toksOf
  rw [if_neg hn, if_neg hn, h]
  exact ⟨rfl, rfl⟩
theorem faultOf_ok {l : List UInt8} {ts : List Tok} (hn : ¬ 6000 < l.length) (h : scanOf l = .ok ts) : faultOf l = (0, 0) ∧ toksOf l = ts := by
  unfold faultOf toksOf
  rw [if_neg hn, if_neg hn, h]
  exact ⟨rfl, rfl⟩

theorem scan_ret (l : List UInt8) (hl : l.length ≤ 1000000) {w : World} (hw : Lw w) : Ret Tryd.prog 6 [.string (str l)] w fun x w' =>
    ∃ v, x = .tuple #[v, .agg #[.int .i64 (faultOf l).1, .int .i64 (faultOf l).2]] ∧ Own w' w.heap.size 32 4 v (toksOf l).length ((toksOf l).flatMap tokL) ∧ Keep [] w w' := by
  refine ret_of 46 Tryd.func6 rfl rfl (by simp) ?_
  (repeat (first | refine pl_pure hT rfl rfl rfl ?_ | refine pl_nil ?_ | refine rn_seq ?_ | refine rn_plain ?_ | refine rn_block ?_ | refine rn_inBlock ?_ | refine rn_skip ?_ | refine rn_true rfl ?_ | refine rn_false rfl ?_ | refine rn_exit rfl ?_ | refine pl_not rfl rfl ?_))
  refine pl_op rfl rfl (opTo_allocN _ rfl zero_fault ?_)
  intro w1 b hb0 hs1 hk1 hb1
  (repeat (first | refine pl_pure hT rfl rfl rfl ?_ | refine pl_nil ?_ | refine rn_seq ?_ | refine rn_plain ?_ | refine rn_block ?_ | refine rn_inBlock ?_ | refine rn_skip ?_ | refine rn_true rfl ?_ | refine rn_false rfl ?_ | refine rn_exit rfl ?_ | refine pl_not rfl rfl ?_))
  refine pl_val _ rfl rfl (val_len l (by decide +kernel) rfl rfl w1) ?_
  by_cases hgt : 6000 < l.length
  · refine pl_yes rfl rfl rfl rfl rfl (by first | (simp only [cmpP]; omega) | (simp [cmpP]; done) | (simp [cmpP]; omega)) ?_
    (repeat (first | refine pl_pure hT rfl rfl rfl ?_ | refine pl_nil ?_ | refine rn_seq ?_ | refine rn_plain ?_ | refine rn_block ?_ | refine rn_inBlock ?_ | refine rn_skip ?_ | refine rn_true rfl ?_ | refine rn_false rfl ?_ | refine rn_exit rfl ?_ | refine pl_not rfl rfl ?_))
    refine pl_val _ rfl rfl (val_build _ rfl rfl (built_fault 3 6000) w1) ?_
    (repeat (first | refine pl_pure hT rfl rfl rfl ?_ | refine pl_nil ?_ | refine rn_seq ?_ | refine rn_plain ?_ | refine rn_block ?_ | refine rn_inBlock ?_ | refine rn_skip ?_ | refine rn_true rfl ?_ | refine rn_false rfl ?_ | refine rn_exit rfl ?_ | refine pl_not rfl rfl ?_))
    refine pl_op rfl rfl (opTo_storeN [.int .i64 3, .int .i64 6000] rfl rfl rfl rfl size_fault hb1 (by simp) (one_fault _ _) ?_)
    intro w2 hs2 hk2 hb2
    rw [splice_whole (by rfl)] at hb2
    (repeat (first | refine pl_pure hT rfl rfl rfl ?_ | refine pl_nil ?_ | refine rn_seq ?_ | refine rn_plain ?_ | refine rn_block ?_ | refine rn_inBlock ?_ | refine rn_skip ?_ | refine rn_true rfl ?_ | refine rn_false rfl ?_ | refine rn_exit rfl ?_ | refine pl_not rfl rfl ?_))
    refine rn_retTC Tryd.func6 rfl rfl rfl (blk_loadVar hT hb2 rfl) ⟨.slice none 0 0, ?_, ?_, hk1.trB hk2 (by omega)⟩
    · unfold faultOf
      rw [if_pos hgt]
    · unfold toksOf
      rw [if_pos hgt]
      exact Own.nil _ _ _ _
  refine pl_no rfl rfl rfl rfl rfl rfl (by first | (simp only [cmpP]; omega) | (simp [cmpP]; done) | (simp [cmpP]; omega)) ?_
  (repeat (first | refine pl_pure hT rfl rfl rfl ?_ | refine pl_nil ?_ | refine rn_seq ?_ | refine rn_plain ?_ | refine rn_block ?_ | refine rn_inBlock ?_ | refine rn_skip ?_ | refine rn_true rfl ?_ | refine rn_false rfl ?_ | refine rn_exit rfl ?_ | refine pl_not rfl rfl ?_))
  refine rn_ind (fun m σ w' => ∃ (i : Nat) (acc : List Tok) (v : Value), i ≤ l.length ∧ m = l.length - i ∧ σ = [(0, .string (str l)), (3, .pointer (some ⟨b, 0, none⟩)), (4, v), (5, .int .i64 (i : Nat))] ∧ acc.length ≤ i ∧
    putT acc (toks l.length i (l.drop i)) = scanOf l ∧ Own w' w.heap.size 32 4 v acc.length (acc.flatMap tokL) ∧ Blk w' b [.int .i64 0, .int .i64 0] 25 ∧ Keep [] w w') l.length _ ?_
    ⟨0, [], _, by omega, by omega, rfl, by simp, by rw [putT_nil]; rfl, Own.nil _ _ _ _, hb1, hk1⟩ ?_
  · exact ⟨rfl, rfl, rfl, rfl, trivial⟩
  rintro m σ w2 ih ⟨i, acc, v, hi, rfl, rfl, hacc, hput, hown, hb2, hk2⟩
  (repeat (first | refine pl_pure hT rfl rfl rfl ?_ | refine pl_nil ?_ | refine rn_seq ?_ | refine rn_plain ?_ | refine rn_block ?_ | refine rn_inBlock ?_ | refine rn_skip ?_ | refine rn_true rfl ?_ | refine rn_false rfl ?_ | refine rn_exit rfl ?_ | refine pl_not rfl rfl ?_))
  refine pl_val _ rfl rfl (val_len l (by decide +kernel) rfl rfl w2) ?_
  by_cases hlt : i < l.length
  · obtain ⟨c, r, hdrop, hget, hdr⟩ := drop_at hlt
    have hlen : (c :: r).length ≤ l.length := by rw [← hdrop, List.length_drop]; omega
    refine pl_yes rfl rfl rfl rfl rfl (by first | (simp only [cmpP]; omega) | (simp [cmpP]; done) | (simp [cmpP]; omega)) ?_
    (repeat (first | refine pl_pure hT rfl rfl rfl ?_ | refine pl_nil ?_ | refine rn_seq ?_ | refine rn_plain ?_ | refine rn_block ?_ | refine rn_inBlock ?_ | refine rn_skip ?_ | refine rn_true rfl ?_ | refine rn_false rfl ?_ | refine rn_exit rfl ?_ | refine pl_not rfl rfl ?_))
    refine pl_val _ rfl rfl (val_byte l i c (by decide +kernel) rfl rfl rfl rfl hget w2) ?_
    refine pl_op rfl rfl (opTo_call (fst := []) (cap := []) rfl rfl rfl rfl (by decide +kernel) ((isBlank_ret c w2).mono ?_))
    rintro x w3 ⟨rfl, rfl⟩
    cases hbl : blankB c with
    | true =>
      (repeat (first | refine pl_pure hT rfl rfl rfl ?_ | refine pl_nil ?_ | refine rn_seq ?_ | refine rn_plain ?_ | refine rn_block ?_ | refine rn_inBlock ?_ | refine rn_skip ?_ | refine rn_true rfl ?_ | refine rn_false rfl ?_ | refine rn_exit rfl ?_ | refine pl_not rfl rfl ?_))
      refine pl_num (((i + 1 : Nat) : Int)) rfl rfl rfl rfl rfl (by simp only [ariP]; omega) ?_
      (repeat (first | refine pl_pure hT rfl rfl rfl ?_ | refine pl_nil ?_ | refine rn_seq ?_ | refine rn_plain ?_ | refine rn_block ?_ | refine rn_inBlock ?_ | refine rn_skip ?_ | refine rn_true rfl ?_ | refine rn_false rfl ?_ | refine rn_exit rfl ?_ | refine pl_not rfl rfl ?_))
      refine rn_sub ?_ (ih _ _ _ ?_ ⟨i + 1, acc, v, hlt, rfl, rfl, by omega, ?_, hown, hb2, hk2⟩)
      · exact ⟨rfl, rfl, rfl, rfl, trivial⟩
      · omega
      · rw [hdrop, toks_skip (bit_blank c r hbl) hlen] at hput
        rw [hdr]
        exact hput
    | false =>
      (repeat (first | refine pl_pure hT rfl rfl rfl ?_ | refine pl_nil ?_ | refine rn_seq ?_ | refine rn_plain ?_ | refine rn_block ?_ | refine rn_inBlock ?_ | refine rn_skip ?_ | refine rn_true rfl ?_ | refine rn_false rfl ?_ | refine rn_exit rfl ?_ | refine pl_not rfl rfl ?_))
      refine pl_val _ rfl rfl (val_from l i (by decide +kernel) rfl rfl rfl rfl hi w3) ?_
      rw [hdrop]
      refine pl_op rfl rfl (opTo_call (fst := []) (cap := []) rfl rfl rfl rfl (by decide +kernel) ((first_ret c r hbl (by omega) (hw.keep hk2)).mono ?_))
      rintro x w4 ⟨rfl, hk4⟩
      have hb4 := hk4.blk hb2 (by simp)
      have hown4 := hown.keep hk4 (by simp)
      have hk04 := hk2.tr hk4
      cases hbit : bit c r with
      | skip => exact absurd hbit (bit_not_skip hbl)
      | bad =>
        (repeat (first | refine pl_pure hT rfl rfl rfl ?_ | refine pl_nil ?_ | refine rn_seq ?_ | refine rn_plain ?_ | refine rn_block ?_ | refine rn_inBlock ?_ | refine rn_skip ?_ | refine rn_true rfl ?_ | refine rn_false rfl ?_ | refine rn_exit rfl ?_ | refine pl_not rfl rfl ?_))
        refine pl_op rfl rfl (opTo_allocN _ rfl zero_tok ?_)
        intro w5 b6 hb60 hs5 hk5 hb5
        refine pl_op rfl rfl (opTo_storeN (tokC 0 [] false 0) rfl rfl rfl rfl size_tok hb5 (by simp [tokC]) (tokC_one _ _ _ _) ?_)
        intro w6 hs6 hk6 hb6
        have hk06 : Keep [] w w6 := (hk04.tr hk5).trB hk6 (by have := hk04.size; omega)
        have hbF : Blk w6 b [.int .i64 0, .int .i64 0] 25 := hk6.blk (hk5.blk hb4 (by simp)) (by simp; exact (hk5.blk hb4 (by simp)).ne hb5 (by decide))
        (repeat (first | refine pl_pure hT rfl rfl rfl ?_ | refine pl_nil ?_ | refine rn_seq ?_ | refine rn_plain ?_ | refine rn_block ?_ | refine rn_inBlock ?_ | refine rn_skip ?_ | refine rn_true rfl ?_ | refine rn_false rfl ?_ | refine rn_exit rfl ?_ | refine pl_not rfl rfl ?_))
        refine pl_val _ rfl rfl (val_build _ rfl rfl (built_fault 7 ((i : Nat) : Int)) w6) ?_
        (repeat (first | refine pl_pure hT rfl rfl rfl ?_ | refine pl_nil ?_ | refine rn_seq ?_ | refine rn_plain ?_ | refine rn_block ?_ | refine rn_inBlock ?_ | refine rn_skip ?_ | refine rn_true rfl ?_ | refine rn_false rfl ?_ | refine rn_exit rfl ?_ | refine pl_not rfl rfl ?_))
        refine pl_op rfl rfl (opTo_storeN [.int .i64 7, .int .i64 ((i : Nat) : Int)] rfl rfl rfl rfl size_fault hbF (by simp) (one_fault _ _) ?_)
        intro w7 hs7 hk7 hb7
        rw [splice_whole (by rfl)] at hb7
        (repeat (first | refine pl_pure hT rfl rfl rfl ?_ | refine pl_nil ?_ | refine rn_seq ?_ | refine rn_plain ?_ | refine rn_block ?_ | refine rn_inBlock ?_ | refine rn_skip ?_ | refine rn_true rfl ?_ | refine rn_false rfl ?_ | refine rn_exit rfl ?_ | refine pl_not rfl rfl ?_))
        rw [hdrop, toks_bad hbit hlen] at hput
        obtain ⟨e1, e2⟩ := faultOf_error hgt hput.symm
        refine rn_retTC Tryd.func6 rfl rfl rfl (blk_loadVar hT hb7 rfl) ⟨.slice none 0 0, ?_, ?_, hk06.trB hk7 (by omega)⟩
        · rw [e1]
        · rw [e2]
          exact Own.nil _ _ _ _
      | tok t q z =>
        have htl := bit_len hbit
        have hadd : i + t.length ≤ l.length := by
          have := hdrop ▸ List.length_drop (i := i) (l := l)
          omega
        (repeat (first | refine pl_pure hT rfl rfl rfl ?_ | refine pl_nil ?_ | refine rn_seq ?_ | refine rn_plain ?_ | refine rn_block ?_ | refine rn_inBlock ?_ | refine rn_skip ?_ | refine rn_true rfl ?_ | refine rn_false rfl ?_ | refine rn_exit rfl ?_ | refine pl_not rfl rfl ?_))
        refine pl_op rfl rfl (opTo_allocN _ rfl zero_tok ?_)
        intro w5 b6 hb60 hs5 hk5 hb5
        refine pl_op rfl rfl (opTo_storeN (tokC 0 t q z) rfl rfl rfl rfl size_tok hb5 (by simp [tokC]) (tokC_one _ _ _ _) ?_)
        intro w6 hs6 hk6 hb6
        rw [splice_whole (by rfl)] at hb6
        (repeat (first | refine pl_pure hT rfl rfl rfl ?_ | refine pl_nil ?_ | refine rn_seq ?_ | refine rn_plain ?_ | refine rn_block ?_ | refine rn_inBlock ?_ | refine rn_skip ?_ | refine rn_true rfl ?_ | refine rn_false rfl ?_ | refine rn_exit rfl ?_ | refine pl_not rfl rfl ?_))
        refine pl_op rfl rfl (opTo_storeN [.int .i64 ((i : Nat) : Int)] rfl rfl rfl rfl size_int hb6 (by simp [tokC]) (by simp; rfl) ?_)
        intro w7 hs7 hk7 hb7
        have hsp : splice (tokC 0 t q z) 0 [.int .i64 ((i : Nat) : Int)] = tokC ((i : Nat) : Int) t q z := rfl
        rw [hsp] at hb7
        have hk05 : Keep [] w w5 := hk04.tr hk5
        have hk06 : Keep [] w w6 := hk05.trB hk6 (by have := hk04.size; omega)
        have hk07 : Keep [] w w7 := hk06.trB hk7 (by have := hk04.size; omega)
        have hne6 : ∀ k, v.ownBlock = some k → k ≠ b6 := fun k hk => by have := (hown4.lt k hk).2; omega
        have hown5 := hown4.keep hk5 (by simp)
        have hown6 := hown5.keep hk6 (by intro k hk; simp; exact hne6 k hk)
        have hown7 := hown6.keep hk7 (by intro k hk; simp; exact hne6 k hk)
        have hF5 := hk5.blk hb4 (by simp)
        have hF6 := hk6.blk hF5 (by simp; exact hF5.ne hb5 (by decide))
        have hF7 := hk7.blk hF6 (by simp; exact hF6.ne hb6 (by decide))
        (repeat (first | refine pl_pure hT rfl rfl rfl ?_ | refine pl_nil ?_ | refine rn_seq ?_ | refine rn_plain ?_ | refine rn_block ?_ | refine rn_inBlock ?_ | refine rn_skip ?_ | refine rn_true rfl ?_ | refine rn_false rfl ?_ | refine rn_exit rfl ?_ | refine pl_not rfl rfl ?_))
        refine pl_val _ rfl rfl (val_load (tokC ((i : Nat) : Int) t q z) hT rfl rfl rfl (hb7.range (by rfl))) ?_
        refine pl_op rfl rfl (opTo_sliceN _ _ rfl rfl (slice_tok _ _ _ _) ?_)
        intro w8 g8 hg8 hs8 hk8 hb8
        have hown8 := hown7.keep hk8 (by simp)
        have hF8 := hk8.blk hF7 (by simp)
        have hb68 := hk8.blk hb7 (by simp)
        have hk08 := hk07.tr hk8
        refine pl_op rfl rfl (opTo_app w.heap.size 32 4 40 (acc.flatMap tokL) (tokC ((i : Nat) : Int) t q z) rfl rfl rfl (by decide +kernel) hown8 (hb8.range (by rfl)) rfl (tokC_one _ _ _ _) (by decide) (by simp only [maxLen]; omega) (by omega) hk08.size ?_)
        intro g9 cap9 w9 hown9 hor9
        have hk09 := app_tok hk08 hown8 hor9
        have hF9 := app_blk hF8 (own_ne hown8 hF8 (by decide)) hor9
        have hb69 := app_blk hb68 (fun k hk => (hne6 k hk).symm) hor9
        (repeat (first | refine pl_pure hT rfl rfl rfl ?_ | refine pl_nil ?_ | refine rn_seq ?_ | refine rn_plain ?_ | refine rn_block ?_ | refine rn_inBlock ?_ | refine rn_skip ?_ | refine rn_true rfl ?_ | refine rn_false rfl ?_ | refine rn_exit rfl ?_ | refine pl_not rfl rfl ?_))
        refine pl_val _ rfl rfl (val_load1 hT rfl rfl rfl (hb69.cell rfl)) ?_
        refine pl_val _ rfl rfl (val_len t (by decide +kernel) rfl rfl w9) ?_
        refine pl_num (((i + t.length : Nat) : Int)) rfl rfl rfl rfl rfl (by simp only [ariP]; omega) ?_
        (repeat (first | refine pl_pure hT rfl rfl rfl ?_ | refine pl_nil ?_ | refine rn_seq ?_ | refine rn_plain ?_ | refine rn_block ?_ | refine rn_inBlock ?_ | refine rn_skip ?_ | refine rn_true rfl ?_ | refine rn_false rfl ?_ | refine rn_exit rfl ?_ | refine pl_not rfl rfl ?_))
        refine rn_sub ?_ (ih _ _ _ ?_ ⟨i + t.length, acc ++ [⟨i, t, q, z⟩], .slice (some ⟨g9, 0, none⟩) (acc.length + 1) cap9, hadd, rfl, rfl, ?_, ?_, ?_, hF9, hk09⟩)
        · exact ⟨rfl, rfl, rfl, rfl, trivial⟩
        · omega
        · simp only [List.length_append, List.length_cons, List.length_nil]; omega
        · rw [hdrop, putT_tok acc hbit hlen, ← hdrop, List.drop_drop] at hput
          exact hput
        · have e1 : (acc ++ [(⟨i, t, q, z⟩ : Tok)]).length = acc.length + 1 := by simp
          have e2 : (acc ++ [(⟨i, t, q, z⟩ : Tok)]).flatMap tokL = acc.flatMap tokL ++ tokC ((i : Nat) : Int) t q z := by
            rw [List.flatMap_append]
            rfl
          rw [e1, e2]
          exact hown9
  · refine pl_no rfl rfl rfl rfl rfl rfl (by first | (simp only [cmpP]; omega) | (simp [cmpP]; done) | (simp [cmpP]; omega)) ?_
    (repeat (first | refine pl_pure hT rfl rfl rfl ?_ | refine pl_nil ?_ | refine rn_seq ?_ | refine rn_plain ?_ | refine rn_block ?_ | refine rn_inBlock ?_ | refine rn_skip ?_ | refine rn_true rfl ?_ | refine rn_false rfl ?_ | refine rn_exit rfl ?_ | refine pl_not rfl rfl ?_))
    refine pl_val _ rfl rfl (val_build _ rfl rfl built_fault0 w2) ?_
    (repeat (first | refine pl_pure hT rfl rfl rfl ?_ | refine pl_nil ?_ | refine rn_seq ?_ | refine rn_plain ?_ | refine rn_block ?_ | refine rn_inBlock ?_ | refine rn_skip ?_ | refine rn_true rfl ?_ | refine rn_false rfl ?_ | refine rn_exit rfl ?_ | refine pl_not rfl rfl ?_))
    refine pl_op rfl rfl (opTo_storeN [.int .i64 0, .int .i64 0] rfl rfl rfl rfl size_fault hb2 (by simp) (one_fault _ _) ?_)
    intro w3 hs3 hk3 hb3
    rw [splice_whole (by rfl)] at hb3
    (repeat (first | refine pl_pure hT rfl rfl rfl ?_ | refine pl_nil ?_ | refine rn_seq ?_ | refine rn_plain ?_ | refine rn_block ?_ | refine rn_inBlock ?_ | refine rn_skip ?_ | refine rn_true rfl ?_ | refine rn_false rfl ?_ | refine rn_exit rfl ?_ | refine pl_not rfl rfl ?_))
    have hi' : i = l.length := by omega
    have hput2 : scanOf l = .ok acc := by
      rw [← hput, hi', List.drop_length]
      have : toks l.length l.length [] = .ok [] := by cases l.length <;> rfl
      rw [this]
      show Except.ok (acc ++ []) = _
      rw [List.append_nil]
    obtain ⟨e1, e2⟩ := faultOf_ok hgt hput2
    refine rn_retTC Tryd.func6 rfl rfl rfl (blk_loadVar hT hb3 rfl) ⟨v, ?_, ?_, hk2.trB hk3 (by omega)⟩
    · rw [e1]
    · rw [e2]
      exact hown.keep hk3 (by intro k hk; simp; exact fun h => own_ne hown hb2 (by decide) k hk h.symm)
end E
end Go.Proofs.YthidfgolcibcoacDoor
