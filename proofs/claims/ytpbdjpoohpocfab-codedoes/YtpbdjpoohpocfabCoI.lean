/- Contract of the first look: codeBegun tells true. -/
import Derived.Test.YtpbdjpoohpocfabSaE
namespace Go.Proofs.Ytpbdjpoohpocfab
set_option maxRecDepth 20000
set_option maxHeartbeats 4000000
namespace E
open Go.Proofs

def sA : ByteArray := ⟨#[97]⟩
def sB : ByteArray := ⟨#[98]⟩
def vs0 : List VarT := [(sA, 3), (sB, 1)]
def body0 (v : Int) : List ST := [.mk 1 v (.mk 1 0 5 []) (.mk 0 0 0 []) [] []]

theorem built_var (s : ByteArray) (n : Int) : Try.prog.built 84 [(0, .string s), (1, .int .i64 n)] = some [Value.string s, .int .i64 n].toArray := by kernel_rfl
theorem slice_var2 (a b c d : Value) : sliceCells Try.prog 70 2 [(0, .agg #[a, b]), (1, .agg #[c, d])] = some (84, #[a, b, c, d]) := by kernel_rfl
def s0 (v : Int) (a b c d : Option Addr) (n m k l : Nat) : List Value := [.int .i64 1, .int .i64 v, .int .i64 1, .int .i64 0, .int .i64 5, .slice a 0 n, .int .i64 0, .int .i64 0, .int .i64 0, .slice b 0 m, .slice c 0 k, .slice d 0 l]

theorem stmtsV0 {F : Nat → Prop} {w : World} {g : Nat} (hg : F g) {v : Int} {a b c d : Option Addr} {n m k l cap : Nat} (h : w.rangeAt g 0 (s0 v a b c d n m k l)) : StmtsV F w (.slice (some ⟨g, 0, none⟩) 1 cap) (body0 v) := by
  refine ⟨_, cap, fun _ => s0 v a b c d n m k l, rfl, fun _ => ⟨g, 0, rfl, hg, fun i hi => ?_⟩, fun i hi => ?_⟩
  · obtain rfl : i = 0 := by simpa [body0] using hi
    exact h
  · obtain rfl : i = 0 := by simpa [body0] using hi
    have e1 : ExprV F w [.int .i64 1, .int .i64 0, .int .i64 5, .slice a 0 n] (.mk 1 0 5 []) := ExprV.of ⟨a, n, fun _ => [], rfl, fun h => absurd h (by simp), fun i h => by simp at h⟩
    have e2 : ExprV F w [.int .i64 0, .int .i64 0, .int .i64 0, .slice b 0 m] (.mk 0 0 0 []) := ExprV.of ⟨b, m, fun _ => [], rfl, fun h => absurd h (by simp), fun i h => by simp at h⟩
    exact StmtV.of (op := 1) (v := v) (b := []) (o := []) e1 e2 ⟨c, k, fun _ => [], rfl, fun h => absurd h (by simp), fun i h => by simp at h⟩ ⟨d, l, fun _ => [], rfl, fun h => absurd h (by simp), fun i h => by simp at h⟩

theorem aStmtsV0 {w : World} {g : Nat} {v : Int} {a b c d : Option Addr} {n m k l cap : Nat} {t : TypeId} (h : Blk w g (s0 v a b c d n m k l) t) : AStmtsV w (.slice (some ⟨g, 0, none⟩) 1 cap) g [.mk 1 v (.mk 1 0 5 0 []) (.mk 0 0 0 0 []) 0 [] 0 []] := by
  refine ⟨_, cap, fun _ => s0 v a b c d n m k l, rfl, fun _ => ⟨rfl, ⟨_, _, h⟩, fun i hi => ?_⟩, fun i hi => ?_⟩
  · obtain rfl : i = 0 := by simpa using hi
    exact h.range (by rfl)
  · obtain rfl : i = 0 := by simpa using hi
    have e1 : AExprV w [.int .i64 1, .int .i64 0, .int .i64 5, .slice a 0 n] (.mk 1 0 5 0 []) := AExprV.of ⟨a, n, fun _ => [], rfl, fun h => absurd h (by simp), fun i h => by simp at h⟩
    have e2 : AExprV w [.int .i64 0, .int .i64 0, .int .i64 0, .slice b 0 m] (.mk 0 0 0 0 []) := AExprV.of ⟨b, m, fun _ => [], rfl, fun h => absurd h (by simp), fun i h => by simp at h⟩
    exact AStmtV.of (op := 1) (v := v) (b := []) (o := []) e1 e2 ⟨c, k, fun _ => [], rfl, fun h => absurd h (by simp), fun i h => by simp at h⟩ ⟨d, l, fun _ => [], rfl, fun h => absurd h (by simp), fun i h => by simp at h⟩

theorem stmtsB0 {F : Nat → Prop} {w : World} {g : Nat} (hg : F g) {v : Int} {a b c d : Option Addr} {n m k l cap : Nat} {t : TypeId} (h : Blk w g (s0 v a b c d n m k l) t) : StmtsV F w (.slice (some ⟨g, 0, none⟩) 1 cap) (body0 v) :=
  stmtsV0 hg (a := a) (b := b) (c := c) (d := d) (n := n) (m := m) (k := k) (l := l) (h.range (by rfl))

/-- A copy of the one statement, by its cells. -/
theorem cells0 {w : World} {x : Value} {g : Nat} {ts : List AS} (h : AStmtsV w x g ts) (he : erSs ts = body0 1) : ∃ cap L t a b c d n m k l, x = .slice (some ⟨g, 0, none⟩) 1 cap ∧ Blk w g L t ∧ L.take 12 = s0 1 a b c d n m k l ∧ 12 ≤ L.length := by
  have hl1 : ts.length = 1 := by rw [← erSs_length, he]; rfl
  obtain ⟨t0, rfl⟩ := List.length_eq_one_iff.1 hl1
  obtain ⟨op, v, ⟨op1, v1, n1, g1, l1⟩, ⟨op2, v2, n2, g2, l2⟩, gb, lb, go, lo⟩ := t0
  · simp only [erSs, erS, erE, body0, List.cons.injEq, ST.mk.injEq, ET.mk.injEq, and_true] at he
    obtain ⟨rfl, rfl, ⟨rfl, rfl, rfl, h1⟩, ⟨rfl, rfl, rfl, h2⟩, h3, h4⟩ := he
    have e1 : l1 = [] := List.eq_nil_of_length_eq_zero (by rw [← erEs_length, h1]; rfl)
    have e2 : l2 = [] := List.eq_nil_of_length_eq_zero (by rw [← erEs_length, h2]; rfl)
    have e3 : lb = [] := List.eq_nil_of_length_eq_zero (by rw [← erSs_length, h3]; rfl)
    have e4 : lo = [] := List.eq_nil_of_length_eq_zero (by rw [← erSs_length, h4]; rfl)
    subst e1
    subst e2
    subst e3
    subst e4
    obtain ⟨cap, ci, hx, ⟨L, t, hb⟩, hr, hci⟩ := h.at (i := 0) rfl
    obtain ⟨ce, cf, bv, ov, rfl, hce, hcf, hbv, hov⟩ := hci.inv
    obtain ⟨lv, rfl, hlv⟩ := hce.inv
    obtain ⟨lv', rfl, hlv'⟩ := hcf.inv
    obtain ⟨a, n, rfl⟩ := hlv.form
    obtain ⟨b, m, rfl⟩ := hlv'.form
    obtain ⟨c, k, rfl⟩ := hbv.form
    obtain ⟨d, l, rfl⟩ := hov.form
    have hcell : ∀ j (hj : j < 12), L[j]? = (s0 1 a b c d n m k l)[j]? := fun j hj => by
      have hu : (s0 1 a b c d n m k l)[j]? = some ((s0 1 a b c d n m k l)[j]'(by simpa [s0] using hj)) := List.getElem?_eq_getElem _
      have := hr j _ hu
      rw [hu]
      unfold Blk at hb
      simp only [World.cell?, hb] at this
      simpa using this
    have hlen : 12 ≤ L.length := by
      have := hcell 11 (by decide)
      have h11 : (s0 1 a b c d n m k l)[11]? = some (.slice d 0 l) := rfl
      rw [h11] at this
      have := (List.getElem?_eq_some_iff.1 this).1
      omega
    refine ⟨cap, L, t, a, b, c, d, n, m, k, l, hx, hb, ?_, hlen⟩
    apply List.ext_getElem?
    intro j
    by_cases hj : j < 12
    · rw [List.getElem?_take, if_pos hj, hcell j hj]
    · rw [List.getElem?_eq_none (by rw [List.length_take]; omega), List.getElem?_eq_none (by simp [s0]; omega)]

theorem vars0 {F : Nat → Prop} {w : World} {g cap : Nat} {t : TypeId} (hg : F g) (hc : 2 ≤ cap) (h : Blk w g [.string sA, .int .i64 3, .string sB, .int .i64 1] t) : VarsV F w (.slice (some ⟨g, 0, none⟩) 2 cap) vs0 := by
  refine ⟨_, cap, rfl, hc, fun _ => ⟨g, 0, rfl, hg, fun i hi => ?_⟩⟩
  match i, hi with
  | 0, _ => exact h.range (by rfl)
  | 1, _ => exact h.range (by rfl)

theorem begun_ret (w : World) : Ret Try.prog 30 [] w fun r w' => r = .bool true ∧ Keep [] w w' := by
  refine ret_of 47 Try.func30 rfl rfl (by simp) ?_
  (repeat (first | refine pl_pure hT rfl rfl rfl ?_ | refine pl_nil ?_ | refine rn_seq ?_ | refine rn_plain ?_ | refine rn_block ?_ | refine rn_inBlock ?_ | refine rn_skip ?_ | refine rn_true rfl ?_ | refine rn_false rfl ?_ | refine rn_exit rfl ?_ | refine pl_not rfl rfl ?_))
  refine pl_val _ rfl rfl (val_build _ rfl rfl (built_var sA 3) w) ?_
  refine pl_val _ rfl rfl (val_build _ rfl rfl (built_var sB 1) w) ?_
  refine pl_op rfl rfl (opTo_sliceN _ _ rfl rfl (slice_var2 _ _ _ _) ?_)
  intro w1 bv hbv hs1 hk1 hV1
  refine pl_val (.agg #[.int .i64 1, .int .i64 0, .int .i64 5, .slice none 0 0]) rfl rfl (val_build [.int .i64 1, .int .i64 0, .int .i64 5, .slice none 0 0] rfl rfl (by kernel_rfl) w1) ?_
  refine pl_val (.agg (s0 1 none none none none 0 0 0 0).toArray) rfl rfl (val_build (s0 1 none none none none 0 0 0 0) rfl rfl (by kernel_rfl) w1) ?_
  refine pl_op rfl rfl (opTo_sliceN 119 (s0 1 none none none none 0 0 0 0) rfl rfl (by kernel_rfl) ?_)
  intro w2 bb hbb hs2 hk2 hS2
  refine pl_val _ rfl rfl (val_build _ rfl rfl (built_prog _ _ _ _ _ _) w2) ?_
  refine pl_op rfl rfl (opTo_allocN _ rfl zero_prog ?_)
  intro w3 p1 hp1 hs3 hk3 hP3
  refine pl_op rfl rfl (opTo_storeN _ rfl rfl rfl rfl (by kernel_rfl) hP3 (by simp [progZ]) (by intro u hu; simp at hu; rcases hu with rfl | rfl <;> rfl) ?_)
  intro w4 hs4 hk4 hP4
  rw [splice_whole (by rfl)] at hP4
  have hk24 : Keep [] w2 w4 := hk3.trB hk4 (by omega)
  have hV4 := hk24.blk (hk2.blk hV1 (by simp)) (by simp)
  have hS4 := hk24.blk hS2 (by simp)
  have hkw4 : Keep [] w w4 := (hk1.tr hk2).tr hk24
  (repeat (first | refine pl_pure hT rfl rfl rfl ?_ | refine pl_nil ?_ | refine rn_seq ?_ | refine rn_plain ?_ | refine rn_block ?_ | refine rn_inBlock ?_ | refine rn_skip ?_ | refine rn_true rfl ?_ | refine rn_false rfl ?_ | refine rn_exit rfl ?_ | refine pl_not rfl rfl ?_))
  refine pl_val _ rfl rfl (val_load [.slice (some ⟨bv, 0, none⟩) 2 2, .slice (some ⟨bb, 0, none⟩) 1 1] hT rfl rfl rfl (hP4.range (by rfl))) ?_
  have hprog4 : ProgV (fun b => b < w4.heap.size) w4 (.agg #[.slice (some ⟨bv, 0, none⟩) 2 2, .slice (some ⟨bb, 0, none⟩) 1 1]) vs0 (body0 1) := ⟨_, _, rfl, vars0 (F := fun b => b < w4.heap.size) (g := bv) hV4.lt (by decide) hV4, stmtsB0 (F := fun b => b < w4.heap.size) (g := bb) hS4.lt hS4⟩
  refine pl_op rfl rfl (opTo_call rfl rfl rfl rfl (by decide +kernel) ((Own_ret hprog4 (In.lt _) (by decide) (by decide)).mono ?_))
  rintro v5 w5 ⟨⟨vq, bq, g, ts, B1, rfl, hvq, hbq, her, hc1, hx1, hout, hB1, hB1'⟩, hk5⟩
  obtain ⟨cap, L, t, a, b, c, d, n, m, k, l, rfl, hL, hL12, hLlen⟩ := cells0 hbq her
  have hg1 : B1 ≤ g := by
    rcases Nat.lt_or_ge g B1 with h | h
    · have := (hout g h).1
      have hl : ts.length = 1 := by rw [← erSs_length, her]; rfl
      rw [hl, hit_self (by decide)] at this
      omega
    · exact h
  obtain ⟨aq, cq, rfl⟩ := hvq.form
  refine pl_op rfl rfl (opTo_allocN _ rfl zero_prog ?_)
  intro w6 q1 hq1 hs6 hk6 hQ6
  refine pl_op rfl rfl (opTo_storeN _ rfl rfl rfl rfl (by kernel_rfl) hQ6 (by simp [progZ]) (by intro u hu; simp at hu; rcases hu with rfl | rfl <;> rfl) ?_)
  intro w7 hs7 hk7 hQ7
  rw [splice_whole (by rfl)] at hQ7
  have hk57 : Keep [] w5 w7 := hk6.trB hk7 (by omega)
  have hL7 := hk57.blk hL (by simp)
  (repeat (first | refine pl_pure hT rfl rfl rfl ?_ | refine pl_nil ?_ | refine rn_seq ?_ | refine rn_plain ?_ | refine rn_block ?_ | refine rn_inBlock ?_ | refine rn_skip ?_ | refine rn_true rfl ?_ | refine rn_false rfl ?_ | refine rn_exit rfl ?_ | refine pl_not rfl rfl ?_))
  refine pl_val _ rfl rfl (val_load1 hT rfl rfl rfl (hQ7.cell rfl)) ?_
  refine pl_val (.pointer (some ⟨g, 0, none⟩)) rfl rfl (val_index (b := g) (q := 0) (sz := 12) 0 hT rfl rfl rfl rfl rfl (by decide) w7) ?_
  (repeat (first | refine pl_pure hT rfl rfl rfl ?_ | refine pl_nil ?_ | refine rn_seq ?_ | refine rn_plain ?_ | refine rn_block ?_ | refine rn_inBlock ?_ | refine rn_skip ?_ | refine rn_true rfl ?_ | refine rn_false rfl ?_ | refine rn_exit rfl ?_ | refine pl_not rfl rfl ?_))
  refine pl_op rfl rfl (opTo_storeN [.int .i64 2] rfl rfl rfl rfl (by kernel_rfl) hL7 (by simp; omega) (by simp; rfl) ?_)
  intro w8 hs8 hk8 hL8
  have hk47 : Keep [] w4 w7 := hk5.tr hk57
  have hgne : ∀ x, x < w4.heap.size → x ∉ [g] := fun x hx => by simp; omega
  have hP8 := hk8.blk (hk47.blk hP4 (by simp)) (hgne p1 hP4.lt)
  have hV8 := hk8.blk (hk47.blk hV4 (by simp)) (hgne bv hV4.lt)
  have hS8 := hk8.blk (hk47.blk hS4 (by simp)) (hgne bb hS4.lt)
  have hQ8 := hk8.blk hQ7 (by simp; have := hL.lt; omega)
  have hvq8 := (hvq.keep hk57 (fun k hk => ⟨by omega, by simp⟩)).keep hk8 (fun k hk => ⟨by have := hk57.size; omega, by simp; omega⟩)
  have hr8 : w8.rangeAt g 0 (s0 2 a b c d n m k l) := by
    refine hL8.range ?_
    show ((splice L (0 + 1) [.int .i64 2]).drop 0).take 12 = s0 2 a b c d n m k l
    have e : L = s0 1 a b c d n m k l ++ L.drop 12 := by rw [← hL12, List.take_append_drop]
    rw [e]
    simp [splice, s0]
  have hkw8 : Keep [] w w8 := (hkw4.tr hk47).trB hk8 (by have := hkw4.size; omega)
  have hprogP : ProgV (fun b => b < w8.heap.size) w8 (.agg #[.slice (some ⟨bv, 0, none⟩) 2 2, .slice (some ⟨bb, 0, none⟩) 1 1]) vs0 (body0 1) := ⟨_, _, rfl, vars0 (F := fun b => b < w8.heap.size) (g := bv) hV8.lt (by decide) hV8, stmtsB0 (F := fun b => b < w8.heap.size) (g := bb) hS8.lt hS8⟩
  have hprogQ : ProgV (fun b => b < w8.heap.size) w8 (.agg #[.slice aq vs0.length cq, .slice (some ⟨g, 0, none⟩) 1 cap]) vs0 (body0 2) := ⟨_, _, rfl, hvq8.mono (fun b hb => by have := hk57.size; omega), stmtsV0 (F := fun b => b < w8.heap.size) (g := g) hL8.lt hr8⟩
  have hsaP : AStmtsV w8 (.slice (some ⟨bb, 0, none⟩) 1 1) bb [.mk 1 1 (.mk 1 0 5 0 []) (.mk 0 0 0 0 []) 0 [] 0 []] := aStmtsV0 hS8
  have hvP : VarsV (fun b => b < w8.heap.size) w8 (.slice (some ⟨bv, 0, none⟩) 2 2) vs0 := vars0 (F := fun b => b < w8.heap.size) (g := bv) hV8.lt (by decide) hV8
  clear hprog4 hr8 hL8 hV8 hS8 hvq8 hk8 hk47 hV4 hS4 hP4 hL7 hQ7 hk57 hk7 hk6 hvq hbq hL hS2 hV1 hk1 hk2 hk3 hk4 hP3 hQ6 hk5 hkw4 hk24
  have hF8 := In.lt w8
  (repeat (first | refine pl_pure hT rfl rfl rfl ?_ | refine pl_nil ?_ | refine rn_seq ?_ | refine rn_plain ?_ | refine rn_block ?_ | refine rn_inBlock ?_ | refine rn_skip ?_ | refine rn_true rfl ?_ | refine rn_false rfl ?_ | refine rn_exit rfl ?_ | refine pl_not rfl rfl ?_))
  refine pl_val _ rfl rfl (val_load [.slice (some ⟨bv, 0, none⟩) 2 2, .slice (some ⟨bb, 0, none⟩) 1 1] hT rfl rfl rfl (hP8.range (by rfl))) ?_
  refine pl_op rfl rfl (opTo_call rfl rfl rfl rfl (by decide +kernel) ((check_ret hprogP hF8 (by decide)).mono ?_))
  rintro v9 w9 ⟨rfl, hk9⟩
  rw [show progFault vs0 (body0 1) = 0 by kernel_rfl]
  (repeat (first | refine pl_pure hT rfl rfl rfl ?_ | refine pl_nil ?_ | refine rn_seq ?_ | refine rn_plain ?_ | refine rn_block ?_ | refine rn_inBlock ?_ | refine rn_skip ?_ | refine rn_true rfl ?_ | refine rn_false rfl ?_ | refine rn_exit rfl ?_ | refine pl_not rfl rfl ?_ | refine pl_val _ rfl rfl (val_load1 hT rfl rfl rfl (Blk.cell (by assumption) (by rfl))) ?_ | refine pl_yes rfl rfl rfl rfl rfl (by first | (simp only [cmpP]; omega) | (simp [cmpP]; done) | (simp [cmpP]; omega)) ?_ | refine pl_no rfl rfl rfl rfl rfl rfl (by first | (simp only [cmpP]; omega) | (simp [cmpP]; done) | (simp [cmpP]; omega)) ?_))
  refine pl_val _ rfl rfl (val_load [.slice aq vs0.length cq, .slice (some ⟨g, 0, none⟩) 1 cap] hT rfl rfl rfl ((hk9.blk hQ8 (by simp)).range (by rfl))) ?_
  refine pl_op rfl rfl (opTo_call rfl rfl rfl rfl (by decide +kernel) ((check_ret (hprogQ.keep hk9 hF8.stays) (hF8.keep hk9) (by decide)).mono ?_))
  rintro v10 w10 ⟨rfl, hk10'⟩
  have hk10 := hk9.tr hk10'
  rw [show progFault vs0 (body0 2) = 1 by kernel_rfl]
  (repeat (first | refine pl_pure hT rfl rfl rfl ?_ | refine pl_nil ?_ | refine rn_seq ?_ | refine rn_plain ?_ | refine rn_block ?_ | refine rn_inBlock ?_ | refine rn_skip ?_ | refine rn_true rfl ?_ | refine rn_false rfl ?_ | refine rn_exit rfl ?_ | refine pl_not rfl rfl ?_ | refine pl_val _ rfl rfl (val_load1 hT rfl rfl rfl (Blk.cell (by assumption) (by rfl))) ?_ | refine pl_yes rfl rfl rfl rfl rfl (by first | (simp only [cmpP]; omega) | (simp [cmpP]; done) | (simp [cmpP]; omega)) ?_ | refine pl_no rfl rfl rfl rfl rfl rfl (by first | (simp only [cmpP]; omega) | (simp [cmpP]; done) | (simp [cmpP]; omega)) ?_))
  refine pl_val _ rfl rfl (val_load [.slice (some ⟨bv, 0, none⟩) 2 2, .slice (some ⟨bb, 0, none⟩) 1 1] hT rfl rfl rfl ((hk10.blk hP8 (by simp)).range (by rfl))) ?_
  have hsized : Sized vs0 := ⟨by decide, by intro x hx; simp [vs0] at hx; rcases hx with rfl | rfl <;> decide⟩
  refine pl_op rfl rfl (opTo_call rfl rfl rfl rfl (by decide +kernel) ((cell_ret (hprogP.keep hk10 hF8.stays) (hF8.keep hk10) hsized 1).mono ?_))
  rintro v11 w11 ⟨rfl, hk11'⟩
  have hk11 := hk10.tr hk11'
  rw [show cellOf vs0 1 = 3 by decide]
  (repeat (first | refine pl_pure hT rfl rfl rfl ?_ | refine pl_nil ?_ | refine rn_seq ?_ | refine rn_plain ?_ | refine rn_block ?_ | refine rn_inBlock ?_ | refine rn_skip ?_ | refine rn_true rfl ?_ | refine rn_false rfl ?_ | refine rn_exit rfl ?_ | refine pl_not rfl rfl ?_ | refine pl_val _ rfl rfl (val_load1 hT rfl rfl rfl (Blk.cell (by assumption) (by rfl))) ?_ | refine pl_yes rfl rfl rfl rfl rfl (by first | (simp only [cmpP]; omega) | (simp [cmpP]; done) | (simp [cmpP]; omega)) ?_ | refine pl_no rfl rfl rfl rfl rfl rfl (by first | (simp only [cmpP]; omega) | (simp [cmpP]; done) | (simp [cmpP]; omega)) ?_))
  refine pl_val _ rfl rfl (val_load [.slice (some ⟨bv, 0, none⟩) 2 2, .slice (some ⟨bb, 0, none⟩) 1 1] hT rfl rfl rfl ((hk11.blk hP8 (by simp)).range (by rfl))) ?_
  refine pl_op rfl rfl (opTo_call rfl rfl rfl rfl (by decide +kernel) ((cells_ret (hprogP.keep hk11 hF8.stays) (hF8.keep hk11) hsized).mono ?_))
  rintro v12 w12 ⟨rfl, hk12'⟩
  have hk12 := hk11.tr hk12'
  rw [show cellOf vs0 (vs0.length : Nat) = 4 by decide]
  (repeat (first | refine pl_pure hT rfl rfl rfl ?_ | refine pl_nil ?_ | refine rn_seq ?_ | refine rn_plain ?_ | refine rn_block ?_ | refine rn_inBlock ?_ | refine rn_skip ?_ | refine rn_true rfl ?_ | refine rn_false rfl ?_ | refine rn_exit rfl ?_ | refine pl_not rfl rfl ?_ | refine pl_val _ rfl rfl (val_load1 hT rfl rfl rfl (Blk.cell (by assumption) (by rfl))) ?_ | refine pl_yes rfl rfl rfl rfl rfl (by first | (simp only [cmpP]; omega) | (simp [cmpP]; done) | (simp [cmpP]; omega)) ?_ | refine pl_no rfl rfl rfl rfl rfl rfl (by first | (simp only [cmpP]; omega) | (simp [cmpP]; done) | (simp [cmpP]; omega)) ?_))
  refine pl_val _ rfl rfl (val_load [.slice (some ⟨bv, 0, none⟩) 2 2, .slice (some ⟨bb, 0, none⟩) 1 1] hT rfl rfl rfl ((hk12.blk hP8 (by simp)).range (by rfl))) ?_
  refine pl_val _ rfl rfl (val_load [.slice aq vs0.length cq, .slice (some ⟨g, 0, none⟩) 1 cap] hT rfl rfl rfl ((hk12.blk hQ8 (by simp)).range (by rfl))) ?_
  refine pl_op rfl rfl (opTo_call rfl rfl rfl rfl (by decide +kernel) ((same_ret (hvP.keep hk12 hF8.stays) (hF8.keep hk12) (hsaP.keep hk12) (fun b => by simp only [List.length_cons, List.length_nil, sSs, sS]; have := hit_le bb b 1; simp [hit] at this ⊢; omega) (fun b => by simp [xSs, xS, cE, cEs, hit]) (by decide) (by decide) (hprogQ.keep hk12 hF8.stays) (hF8.keep hk12)).mono ?_))
  rintro v13 w13 ⟨rfl, hk13'⟩
  have hk13 := hk12.tr hk13'
  have hne : eqP vs0 (erSs [.mk 1 1 (.mk 1 0 5 0 []) (.mk 0 0 0 0 []) 0 [] 0 []]) vs0 (body0 2) = false := by kernel_rfl
  rw [hne]
  (repeat (first | refine pl_pure hT rfl rfl rfl ?_ | refine pl_nil ?_ | refine rn_seq ?_ | refine rn_plain ?_ | refine rn_block ?_ | refine rn_inBlock ?_ | refine rn_skip ?_ | refine rn_true rfl ?_ | refine rn_false rfl ?_ | refine rn_exit rfl ?_ | refine pl_not rfl rfl ?_))
  refine pl_op rfl rfl (opTo_call rfl rfl rfl rfl (by decide +kernel) ((name_ret ⟨#[97, 98]⟩ w13).mono ?_))
  rintro v14 w14 ⟨rfl, rfl⟩
  rw [show nameOk ⟨#[97, 98]⟩ = true by kernel_rfl]
  (repeat (first | refine pl_pure hT rfl rfl rfl ?_ | refine pl_nil ?_ | refine rn_seq ?_ | refine rn_plain ?_ | refine rn_block ?_ | refine rn_inBlock ?_ | refine rn_skip ?_ | refine rn_true rfl ?_ | refine rn_false rfl ?_ | refine rn_exit rfl ?_ | refine pl_not rfl rfl ?_))
  refine pl_op rfl rfl (opTo_call rfl rfl rfl rfl (by decide +kernel) ((parts_ret 3 _).mono ?_))
  rintro v15 w15 ⟨rfl, rfl⟩
  rw [show partsOf 3 = 1 by decide]
  (repeat (first | refine pl_pure hT rfl rfl rfl ?_ | refine pl_nil ?_ | refine rn_seq ?_ | refine rn_plain ?_ | refine rn_block ?_ | refine rn_inBlock ?_ | refine rn_skip ?_ | refine rn_true rfl ?_ | refine rn_false rfl ?_ | refine rn_exit rfl ?_ | refine pl_not rfl rfl ?_ | refine pl_val _ rfl rfl (val_load1 hT rfl rfl rfl (Blk.cell (by assumption) (by rfl))) ?_ | refine pl_yes rfl rfl rfl rfl rfl (by first | (simp only [cmpP]; omega) | (simp [cmpP]; done) | (simp [cmpP]; omega)) ?_ | refine pl_no rfl rfl rfl rfl rfl rfl (by first | (simp only [cmpP]; omega) | (simp [cmpP]; done) | (simp [cmpP]; omega)) ?_))
  exact rn_ret Try.func30 (.inl ⟨_, rfl, rfl⟩) ⟨rfl, hkw8.tr hk13⟩
end E
end Go.Proofs.Ytpbdjpoohpocfab
