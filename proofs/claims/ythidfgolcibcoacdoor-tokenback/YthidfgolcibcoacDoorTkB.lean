/- strconv's contracts at this program; contracts of word, number, first, and of the document's LongOf. -/
import Derived.Test.YthidfgolcibcoacDoorShelf
import Derived.Test.YthidfgolcibcoacDoorTkA
import Derived.Lib.SmallJoins
namespace Go.Proofs.YthidfgolcibcoacDoor
set_option maxRecDepth 20000
set_option maxHeartbeats 4000000
namespace E
open Go.Proofs

/-! ### The library's variables -/
structure Lw (w : World) : Prop where
  tab : Lib.TabIs Tryd.prog w "internal/strconv.uint64pow10" .u64 Lib.pow10Tab
  syn : ∃ tp p, w.var? Tryd.prog "strconv.ErrSyntax" = some #[.iface tp p]
  ran : ∃ tp p, w.var? Tryd.prog "strconv.ErrRange" = some #[.iface tp p]

theorem var_keep {P : Program} {w w' : World} {n : String} {cs : Array Value} (h : w.var? P n = some cs) (hk : Keep [] w w') : w'.var? P n = some cs := by
  unfold World.var? at h ⊢
  cases hg : P.globalNamed n with
  | none => simp [hg] at h
  | some g =>
    simp only [hg, Option.bind_some] at h ⊢
    have hlt : g < w.heap.size := by
      rcases Nat.lt_or_ge g w.heap.size with h' | h'
      · exact h'
      · simp [Array.getElem?_eq_none h'] at h
    rw [hk.block g hlt (by simp)]
    exact h
theorem Lw.keep {w w' : World} (h : Lw w) (hk : Keep [] w w') : Lw w' :=
  ⟨var_keep h.tab hk, let ⟨tp, p, hv⟩ := h.syn; ⟨tp, p, var_keep hv hk⟩, let ⟨tp, p, hv⟩ := h.ran; ⟨tp, p, var_keep hv hk⟩⟩

theorem keep_below {w w' : World} (h : Go.RowKit.Below w.heap.size w w') : Keep [] w w' := ⟨h.os, h.tape, h.output, h.size, fun k hk _ => h.block k hk⟩
theorem keep_grow (w : World) (k : Nat) (os : Array Obj) : Keep [] w (Go.Sort.grow (w.drewN k) os) :=
  ⟨rfl, rfl, rfl, by simp [Go.Sort.grow, World.drewN], fun j hj _ => by simp only [Go.Sort.grow, World.drewN]; rw [Array.getElem?_append_left hj]⟩

/-! ### strconv -/
def piN (l : List UInt8) : Int :=
  match Lib.parseIntB 64 l with
  | .ok v => v
  | .«syntax» => 0
  | .range => Lib.intSat 64 l
def piOk (l : List UInt8) : Bool :=
  match Lib.parseIntB 64 l with
  | .ok _ => true
  | _ => false
theorem piN_bounds (l : List UInt8) : -9223372036854775808 ≤ piN l ∧ piN l ≤ 9223372036854775807 := by
  have e63 : ((2 ^ (64 - 1) : Nat) : Int) = 9223372036854775808 := by decide
  unfold piN
  split
  · rename_i v hv
    have hb := Lib.parseIntB_bounds hv
    exact ⟨by have := hb.1; omega, by have := hb.2; omega⟩
  · omega
  · unfold Lib.intSat
    split <;> omega
theorem longOf_pi (l : List UInt8) : longOf l = if piOk l && (Lib.itoa (piN l) == l) then some (piN l) else none := by
  unfold longOf piOk piN
  cases h : Lib.parseIntB 64 l with
  | ok v => simp
  | «syntax» => simp
  | range => simp

theorem parseInt_ret (l : List UInt8) (hl : l.length ≤ 1000000) {w : World} (hw : Lw w) : Ret Tryd.prog 19 [.string (str l), .int .i64 10, .int .i64 64] w fun r w' =>
    (∃ e, r = .tuple #[.int .i64 (piN l), e] ∧ ((piOk l = true ∧ e = .nilIface) ∨ (piOk l = false ∧ ∃ tp p, e = .iface tp p))) ∧ Keep [] w w' := by
  have hs : (str l).size = l.length := str_size l
  have hd : (str l).data.toList = l := str_list l
  cases h : Lib.parseIntB 64 l with
  | ok v =>
    refine Calls.mono (Any.strconv_ParseInt_10_at64_ok Tryd.laysC174 (str l) (by omega) v (by rw [hd]; exact h) w) ?_
    rintro e w' ⟨rfl, hw'⟩
    refine ⟨_, rfl, ⟨_, ?_, .inl ⟨by simp only [piOk, h], rfl⟩⟩, ?_⟩
    · simp only [piN, h]
    · rcases hw' with rfl | ⟨t, rfl⟩
      · exact Keep.refl _ _
      · exact keep_below (Joins.below_bytesWorld _ _ _ _ (Nat.le_refl _))
  | «syntax» =>
    obtain ⟨tp, p, hv⟩ := hw.syn
    refine Calls.mono (Any.strconv_ParseInt_10_at64_syntax_var Tryd.laysC174 (str l) (by omega) (by rw [hd]; exact h) tp p w hv) ?_
    rintro e w' ⟨N, rfl, _, _, hb⟩
    exact ⟨_, rfl, ⟨_, by simp only [piN, h]; rfl, .inr ⟨by simp only [piOk, h], _, _, rfl⟩⟩, keep_below hb⟩
  | range =>
    obtain ⟨tp, p, hv⟩ := hw.ran
    refine Calls.mono (Any.strconv_ParseInt_10_at64_range_var Tryd.laysC174 (str l) (by omega) (by rw [hd]; exact h) tp p w hv) ?_
    rintro e w' ⟨N, rfl, _, _, hb⟩
    exact ⟨_, rfl, ⟨_, by simp only [piN, h, hd]; rfl, .inr ⟨by simp only [piOk, h], _, _, rfl⟩⟩, keep_below hb⟩

theorem formatInt_ret (v : Int) (h0 : -9223372036854775808 ≤ v) (h1 : v ≤ 9223372036854775807) {w : World} (hw : Lw w) : Ret Tryd.prog 20 [.int .i64 v, .int .i64 10] w fun r w' => r = .string (str (Lib.itoa v)) ∧ Keep [] w w' := by
  refine Calls.mono (Any.strconv_FormatInt_10 Tryd.laysM173 v h0 h1 w hw.tab) ?_
  rintro e w' ⟨rfl, k, os, rfl⟩
  exact ⟨_, rfl, rfl, keep_grow _ _ _⟩

theorem cloneS_ret (l : List UInt8) (hl : l.length ≤ 1000000) (w : World) : Ret Tryd.prog 25 [.string (str l)] w fun r w' => r = .string (str l) ∧ Keep [] w w' := by
  refine Calls.mono (Any.stringslite_Clone Tryd.laysM316 (str l) w (by rw [str_size]; omega)) ?_
  rintro e w' ⟨rfl, hb⟩
  exact ⟨_, rfl, rfl, keep_below hb⟩
theorem clone_ret (l : List UInt8) (hl : l.length ≤ 1000000) (w : World) : Ret Tryd.prog 21 [.string (str l)] w fun r w' => r = .string (str l) ∧ Keep [] w w' := by
  refine ret_of 5 Tryd.func21 rfl rfl (by simp) ?_
  (repeat (first | refine pl_pure hT rfl rfl rfl ?_ | refine pl_nil ?_ | refine rn_seq ?_ | refine rn_plain ?_ | refine rn_block ?_ | refine rn_inBlock ?_ | refine rn_skip ?_ | refine rn_true rfl ?_ | refine rn_false rfl ?_ | refine rn_exit rfl ?_ | refine pl_not rfl rfl ?_))
  refine pl_op rfl rfl (opTo_call (fst := []) (cap := []) rfl rfl rfl rfl (by decide +kernel) ((cloneS_ret l hl w).mono ?_))
  rintro v w1 ⟨rfl, hk⟩
  (repeat (first | refine pl_pure hT rfl rfl rfl ?_ | refine pl_nil ?_ | refine rn_seq ?_ | refine rn_plain ?_ | refine rn_block ?_ | refine rn_inBlock ?_ | refine rn_skip ?_ | refine rn_true rfl ?_ | refine rn_false rfl ?_ | refine rn_exit rfl ?_ | refine pl_not rfl rfl ?_))
  exact rn_ret Tryd.func21 (.inl ⟨_, rfl, rfl⟩) ⟨rfl, hk⟩

/-! ### Tokens as cells -/
def tokC (pos : Int) (l : List UInt8) (b : Bool) (v : Int) : List Value := [.int .i64 pos, .string (str l), .bool b, .int .i64 v]
def tokL (t : Tok) : List Value := tokC (t.pos : Nat) t.text t.num t.val
theorem tokC_one (pos : Int) (l : List UInt8) (b : Bool) (v : Int) : ∀ u ∈ tokC pos l b v, u.oneCell' = true := by
  intro u hu
  simp only [tokC, List.mem_cons, List.not_mem_nil, or_false] at hu
  rcases hu with rfl | rfl | rfl | rfl <;> rfl
theorem tokL_length (t : Tok) : (tokL t).length = 4 := rfl

theorem zero_tok : ((Tryd.prog.info? 32).bind (·.zero)).map (·.cells) = some (tokC 0 [] false 0).toArray := by kernel_rfl
theorem built_tok0 : Tryd.prog.built 32 [] = some (tokC 0 [] false 0).toArray := by kernel_rfl
theorem built_tok1 (s : ByteArray) : Tryd.prog.built 32 [(1, .string s)] = some [Value.int .i64 0, .string s, .bool false, .int .i64 0].toArray := by kernel_rfl
theorem built_tok3 (s : ByteArray) (v : Int) : Tryd.prog.built 32 [(1, .string s), (2, .bool true), (3, .int .i64 v)] = some [Value.int .i64 0, .string s, .bool true, .int .i64 v].toArray := by kernel_rfl
theorem size_tok : sizeOk Tryd.prog 32 4 = true := by kernel_rfl

theorem word_ret (l : List UInt8) (hl : l.length ≤ 1000000) (w : World) : Ret Tryd.prog 14 [.string (str l)] w fun r w' => r = .agg (tokC 0 l false 0).toArray ∧ Keep [] w w' := by
  refine ret_of 6 Tryd.func14 rfl rfl (by simp) ?_
  (repeat (first | refine pl_pure hT rfl rfl rfl ?_ | refine pl_nil ?_ | refine rn_seq ?_ | refine rn_plain ?_ | refine rn_block ?_ | refine rn_inBlock ?_ | refine rn_skip ?_ | refine rn_true rfl ?_ | refine rn_false rfl ?_ | refine rn_exit rfl ?_ | refine pl_not rfl rfl ?_))
  refine pl_op rfl rfl (opTo_allocN _ rfl zero_tok ?_)
  intro w1 b hb0 hs1 hk1 hb1
  (repeat (first | refine pl_pure hT rfl rfl rfl ?_ | refine pl_nil ?_ | refine rn_seq ?_ | refine rn_plain ?_ | refine rn_block ?_ | refine rn_inBlock ?_ | refine rn_skip ?_ | refine rn_true rfl ?_ | refine rn_false rfl ?_ | refine rn_exit rfl ?_ | refine pl_not rfl rfl ?_))
  refine pl_op rfl rfl (opTo_call (fst := []) (cap := []) rfl rfl rfl rfl (by decide +kernel) ((clone_ret l hl w1).mono ?_))
  rintro v w2 ⟨rfl, hk2⟩
  have hb2 := hk2.blk hb1 (by simp)
  refine pl_val _ rfl rfl (val_build _ rfl rfl (built_tok1 (str l)) w2) ?_
  refine pl_op rfl rfl (opTo_storeN (tokC 0 l false 0) rfl rfl rfl rfl size_tok hb2 (by simp [tokC]) (tokC_one _ _ _ _) ?_)
  intro w3 hs3 hk3 hb3
  rw [splice_whole (by rfl)] at hb3
  (repeat (first | refine pl_pure hT rfl rfl rfl ?_ | refine pl_nil ?_ | refine rn_seq ?_ | refine rn_plain ?_ | refine rn_block ?_ | refine rn_inBlock ?_ | refine rn_skip ?_ | refine rn_true rfl ?_ | refine rn_false rfl ?_ | refine rn_exit rfl ?_ | refine pl_not rfl rfl ?_))
  exact rn_ret Tryd.func14 (.inr (.inr (.inl ⟨_, _, _, rfl, rfl, blk_loadVar hT hb3 rfl⟩))) ⟨rfl, (hk1.tr hk2).trB hk3 (by omega)⟩

/-- What number and first tell. -/
def bitV : Bit → Value
  | .tok t b v => .tuple #[.agg (tokC 0 t b v).toArray, .bool true]
  | _ => .tuple #[.agg (tokC 0 [] false 0).toArray, .bool false]
def numV (l : List UInt8) : Value :=
  match longOf l with
  | some v => .tuple #[.agg (tokC 0 l true v).toArray, .bool true]
  | none => .tuple #[.agg (tokC 0 [] false 0).toArray, .bool false]
theorem numV_yes {l : List UInt8} (h : piOk l = true) (h2 : (Lib.itoa (piN l) == l) = true) : numV l = .tuple #[.agg (tokC 0 l true (piN l)).toArray, .bool true] := by
  unfold numV
  rw [longOf_pi, h, h2]
  rfl
theorem numV_no {l : List UInt8} (h : (piOk l && (Lib.itoa (piN l) == l)) = false) : numV l = .tuple #[.agg (tokC 0 [] false 0).toArray, .bool false] := by
  unfold numV
  rw [longOf_pi, h]
  rfl

theorem number_ret (l : List UInt8) (hl : l.length ≤ 1000000) {w : World} (hw : Lw w) : Ret Tryd.prog 18 [.string (str l)] w fun r w' => r = numV l ∧ Keep [] w w' := by
  refine ret_of 25 Tryd.func18 rfl rfl (by simp) ?_
  (repeat (first | refine pl_pure hT rfl rfl rfl ?_ | refine pl_nil ?_ | refine rn_seq ?_ | refine rn_plain ?_ | refine rn_block ?_ | refine rn_inBlock ?_ | refine rn_skip ?_ | refine rn_true rfl ?_ | refine rn_false rfl ?_ | refine rn_exit rfl ?_ | refine pl_not rfl rfl ?_))
  refine pl_op rfl rfl (opTo_allocN _ rfl zero_tok ?_)
  intro w1 b hb0 hs1 hk1 hb1
  (repeat (first | refine pl_pure hT rfl rfl rfl ?_ | refine pl_nil ?_ | refine rn_seq ?_ | refine rn_plain ?_ | refine rn_block ?_ | refine rn_inBlock ?_ | refine rn_skip ?_ | refine rn_true rfl ?_ | refine rn_false rfl ?_ | refine rn_exit rfl ?_ | refine pl_not rfl rfl ?_))
  refine pl_op rfl rfl (opTo_call (fst := []) (cap := []) rfl rfl rfl rfl (by decide +kernel) ((parseInt_ret l hl (hw.keep hk1)).mono ?_))
  rintro v w2 ⟨⟨er, rfl, her⟩, hk2⟩
  have hb2 := hk2.blk hb1 (by simp)
  (repeat (first | refine pl_pure hT rfl rfl rfl ?_ | refine pl_nil ?_ | refine rn_seq ?_ | refine rn_plain ?_ | refine rn_block ?_ | refine rn_inBlock ?_ | refine rn_skip ?_ | refine rn_true rfl ?_ | refine rn_false rfl ?_ | refine rn_exit rfl ?_ | refine pl_not rfl rfl ?_))
  refine pl_op rfl rfl (opTo_call (fst := []) (cap := []) rfl rfl rfl rfl (by decide +kernel) ((formatInt_ret (piN l) (piN_bounds l).1 (piN_bounds l).2 ((hw.keep hk1).keep hk2)).mono ?_))
  rintro v w3 ⟨rfl, hk3⟩
  have hb3 := hk3.blk hb2 (by simp)
  have hk03 : Keep [] w w3 := (hk1.tr hk2).tr hk3
  (repeat (first | refine pl_pure hT rfl rfl rfl ?_ | refine pl_nil ?_ | refine rn_seq ?_ | refine rn_plain ?_ | refine rn_block ?_ | refine rn_inBlock ?_ | refine rn_skip ?_ | refine rn_true rfl ?_ | refine rn_false rfl ?_ | refine rn_exit rfl ?_ | refine pl_not rfl rfl ?_))
  rcases her with ⟨hok, rfl⟩ | ⟨hok, tp, p, rfl⟩
  · refine pl_val _ rfl rfl (val_errNil (by decide +kernel) rfl rfl w3) ?_
    (repeat (first | refine pl_pure hT rfl rfl rfl ?_ | refine pl_nil ?_ | refine rn_seq ?_ | refine rn_plain ?_ | refine rn_block ?_ | refine rn_inBlock ?_ | refine rn_skip ?_ | refine rn_true rfl ?_ | refine rn_false rfl ?_ | refine rn_exit rfl ?_ | refine pl_not rfl rfl ?_))
    obtain ⟨q, hq⟩ : ∃ q, q = (Lib.itoa (piN l) == l) := ⟨_, rfl⟩
    refine pl_val _ rfl rfl (val_neS (Lib.itoa (piN l)) l (!q) rfl rfl rfl (by rw [hq]) w3) ?_
    cases q with
    | true =>
      (repeat (first | refine pl_pure hT rfl rfl rfl ?_ | refine pl_nil ?_ | refine rn_seq ?_ | refine rn_plain ?_ | refine rn_block ?_ | refine rn_inBlock ?_ | refine rn_skip ?_ | refine rn_true rfl ?_ | refine rn_false rfl ?_ | refine rn_exit rfl ?_ | refine pl_not rfl rfl ?_))
      refine pl_val _ rfl rfl (val_build _ rfl rfl (built_tok3 (str (Lib.itoa (piN l))) (piN l)) w3) ?_
      refine pl_op rfl rfl (opTo_storeN (tokC 0 (Lib.itoa (piN l)) true (piN l)) rfl rfl rfl rfl size_tok hb3 (by simp [tokC]) (tokC_one _ _ _ _) ?_)
      intro w4 hs4 hk4 hb4
      rw [splice_whole (by rfl)] at hb4
      (repeat (first | refine pl_pure hT rfl rfl rfl ?_ | refine pl_nil ?_ | refine rn_seq ?_ | refine rn_plain ?_ | refine rn_block ?_ | refine rn_inBlock ?_ | refine rn_skip ?_ | refine rn_true rfl ?_ | refine rn_false rfl ?_ | refine rn_exit rfl ?_ | refine pl_not rfl rfl ?_))
      refine rn_ret Tryd.func18 (.inr (.inr (.inr (.inl ⟨_, _, _, _, _, _, rfl, rfl, blk_loadVar hT hb4 rfl, rfl, rfl⟩)))) ⟨?_, hk03.trB hk4 (by omega)⟩
      rw [numV_yes hok hq.symm]
      have e : Lib.itoa (piN l) = l := by simpa using hq.symm
      rw [e]
    | false =>
      (repeat (first | refine pl_pure hT rfl rfl rfl ?_ | refine pl_nil ?_ | refine rn_seq ?_ | refine rn_plain ?_ | refine rn_block ?_ | refine rn_inBlock ?_ | refine rn_skip ?_ | refine rn_true rfl ?_ | refine rn_false rfl ?_ | refine rn_exit rfl ?_ | refine pl_not rfl rfl ?_))
      refine pl_val _ rfl rfl (val_build _ rfl rfl built_tok0 w3) ?_
      refine pl_op rfl rfl (opTo_storeN (tokC 0 [] false 0) rfl rfl rfl rfl size_tok hb3 (by simp [tokC]) (tokC_one _ _ _ _) ?_)
      intro w4 hs4 hk4 hb4
      rw [splice_whole (by rfl)] at hb4
      (repeat (first | refine pl_pure hT rfl rfl rfl ?_ | refine pl_nil ?_ | refine rn_seq ?_ | refine rn_plain ?_ | refine rn_block ?_ | refine rn_inBlock ?_ | refine rn_skip ?_ | refine rn_true rfl ?_ | refine rn_false rfl ?_ | refine rn_exit rfl ?_ | refine pl_not rfl rfl ?_))
      exact rn_ret Tryd.func18 (.inr (.inr (.inr (.inl ⟨_, _, _, _, _, _, rfl, rfl, blk_loadVar hT hb4 rfl, rfl, rfl⟩)))) ⟨(numV_no (by rw [← hq, Bool.and_false])).symm, hk03.trB hk4 (by omega)⟩
  · refine pl_val _ rfl rfl (val_errSome tp p (by decide +kernel) rfl rfl w3) ?_
    (repeat (first | refine pl_pure hT rfl rfl rfl ?_ | refine pl_nil ?_ | refine rn_seq ?_ | refine rn_plain ?_ | refine rn_block ?_ | refine rn_inBlock ?_ | refine rn_skip ?_ | refine rn_true rfl ?_ | refine rn_false rfl ?_ | refine rn_exit rfl ?_ | refine pl_not rfl rfl ?_))
    refine pl_val _ rfl rfl (val_build _ rfl rfl built_tok0 w3) ?_
    refine pl_op rfl rfl (opTo_storeN (tokC 0 [] false 0) rfl rfl rfl rfl size_tok hb3 (by simp [tokC]) (tokC_one _ _ _ _) ?_)
    intro w4 hs4 hk4 hb4
    rw [splice_whole (by rfl)] at hb4
    (repeat (first | refine pl_pure hT rfl rfl rfl ?_ | refine pl_nil ?_ | refine rn_seq ?_ | refine rn_plain ?_ | refine rn_block ?_ | refine rn_inBlock ?_ | refine rn_skip ?_ | refine rn_true rfl ?_ | refine rn_false rfl ?_ | refine rn_exit rfl ?_ | refine pl_not rfl rfl ?_))
    exact rn_ret Tryd.func18 (.inr (.inr (.inr (.inl ⟨_, _, _, _, _, _, rfl, rfl, blk_loadVar hT hb4 rfl, rfl, rfl⟩)))) ⟨(numV_no (by rw [hok, Bool.false_and])).symm, hk03.trB hk4 (by omega)⟩

/-- What the document's LongOf tells. -/
def longV (l : List UInt8) : Value :=
  match longOf l with
  | some v => .tuple #[.int .i64 v, .bool true]
  | none => .tuple #[.int .i64 0, .bool false]
theorem longR_ret (l : List UInt8) (hl : l.length ≤ 1000000) {w : World} (hw : Lw w) : Ret Tryd.prog 13 [.string (str l)] w fun r w' => r = longV l ∧ Keep [] w w' := by
  refine ret_of 20 Tryd.func13 rfl rfl (by simp) ?_
  (repeat (first | refine pl_pure hT rfl rfl rfl ?_ | refine pl_nil ?_ | refine rn_seq ?_ | refine rn_plain ?_ | refine rn_block ?_ | refine rn_inBlock ?_ | refine rn_skip ?_ | refine rn_true rfl ?_ | refine rn_false rfl ?_ | refine rn_exit rfl ?_ | refine pl_not rfl rfl ?_))
  refine pl_op rfl rfl (opTo_call (fst := []) (cap := []) rfl rfl rfl rfl (by decide +kernel) ((parseInt_ret l hl hw).mono ?_))
  rintro v w2 ⟨⟨er, rfl, her⟩, hk2⟩
  (repeat (first | refine pl_pure hT rfl rfl rfl ?_ | refine pl_nil ?_ | refine rn_seq ?_ | refine rn_plain ?_ | refine rn_block ?_ | refine rn_inBlock ?_ | refine rn_skip ?_ | refine rn_true rfl ?_ | refine rn_false rfl ?_ | refine rn_exit rfl ?_ | refine pl_not rfl rfl ?_))
  rcases her with ⟨hok, rfl⟩ | ⟨hok, tp, p, rfl⟩
  · refine pl_val _ rfl rfl (val_errNil (by decide +kernel) rfl rfl w2) ?_
    (repeat (first | refine pl_pure hT rfl rfl rfl ?_ | refine pl_nil ?_ | refine rn_seq ?_ | refine rn_plain ?_ | refine rn_block ?_ | refine rn_inBlock ?_ | refine rn_skip ?_ | refine rn_true rfl ?_ | refine rn_false rfl ?_ | refine rn_exit rfl ?_ | refine pl_not rfl rfl ?_))
    refine pl_op rfl rfl (opTo_call (fst := []) (cap := []) rfl rfl rfl rfl (by decide +kernel) ((formatInt_ret (piN l) (piN_bounds l).1 (piN_bounds l).2 (hw.keep hk2)).mono ?_))
    rintro v w3 ⟨rfl, hk3⟩
    (repeat (first | refine pl_pure hT rfl rfl rfl ?_ | refine pl_nil ?_ | refine rn_seq ?_ | refine rn_plain ?_ | refine rn_block ?_ | refine rn_inBlock ?_ | refine rn_skip ?_ | refine rn_true rfl ?_ | refine rn_false rfl ?_ | refine rn_exit rfl ?_ | refine pl_not rfl rfl ?_))
    obtain ⟨q, hq⟩ : ∃ q, q = (Lib.itoa (piN l) == l) := ⟨_, rfl⟩
    refine pl_val _ rfl rfl (val_neS (Lib.itoa (piN l)) l (!q) rfl rfl rfl (by rw [hq]) w3) ?_
    cases q with
    | true =>
      (repeat (first | refine pl_pure hT rfl rfl rfl ?_ | refine pl_nil ?_ | refine rn_seq ?_ | refine rn_plain ?_ | refine rn_block ?_ | refine rn_inBlock ?_ | refine rn_skip ?_ | refine rn_true rfl ?_ | refine rn_false rfl ?_ | refine rn_exit rfl ?_ | refine pl_not rfl rfl ?_))
      refine rn_ret Tryd.func13 (.inr (.inr (.inr (.inr ⟨_, _, _, _, rfl, rfl, rfl, rfl⟩)))) ⟨?_, hk2.tr hk3⟩
      unfold longV
      rw [longOf_pi, hok, ← hq]
      rfl
    | false =>
      (repeat (first | refine pl_pure hT rfl rfl rfl ?_ | refine pl_nil ?_ | refine rn_seq ?_ | refine rn_plain ?_ | refine rn_block ?_ | refine rn_inBlock ?_ | refine rn_skip ?_ | refine rn_true rfl ?_ | refine rn_false rfl ?_ | refine rn_exit rfl ?_ | refine pl_not rfl rfl ?_))
      refine rn_ret Tryd.func13 (.inr (.inr (.inr (.inr ⟨_, _, _, _, rfl, rfl, rfl, rfl⟩)))) ⟨?_, hk2.tr hk3⟩
      unfold longV
      rw [longOf_pi, hok, ← hq]
      rfl
  · refine pl_val _ rfl rfl (val_errSome tp p (by decide +kernel) rfl rfl w2) ?_
    (repeat (first | refine pl_pure hT rfl rfl rfl ?_ | refine pl_nil ?_ | refine rn_seq ?_ | refine rn_plain ?_ | refine rn_block ?_ | refine rn_inBlock ?_ | refine rn_skip ?_ | refine rn_true rfl ?_ | refine rn_false rfl ?_ | refine rn_exit rfl ?_ | refine pl_not rfl rfl ?_))
    refine rn_ret Tryd.func13 (.inr (.inr (.inr (.inr ⟨_, _, _, _, rfl, rfl, rfl, rfl⟩)))) ⟨?_, hk2⟩
    unfold longV
    rw [longOf_pi, hok]
    rfl

end E
end Go.Proofs.YthidfgolcibcoacDoor
