/- Contracts of the closures of Crash and Read, of Disk.last and Disk.Read. -/
import Derived.Test.YtcecheleagljgaaDiskB
namespace Go.Proofs.Ytcecheleagljgaa
set_option maxRecDepth 20000
namespace E
open Go.Proofs

/-- Whether a mask has the bit of a number. -/
def maskB (mask : Int) (i : Nat) : Bool := IntKind.u64.wrap (BitVec.ofInt 64 (mask.fdiv (2 ^ (i % 64))) &&& BitVec.ofInt 64 1).toNat == 1

theorem crash1_ret {w : World} {c : Nat} {mask : Int} {e : TypeId} (hc : Blk w c [.int .u64 mask] e) (i : Nat) :
    Ret Try.prog 37 [.int .i64 i, .pointer (some ⟨c, 0, none⟩)] w fun v w' => v = .bool (maskB mask i) ∧ w' = w := by
  refine ret_of 10 Try.func37 rfl rfl (by simp) ?_
  repeat (first | refine pl_pure hT rfl rfl rfl ?_ | refine pl_nil ?_ | refine rn_seq ?_ | refine rn_plain ?_ | refine rn_block ?_ | refine rn_inBlock ?_ | refine rn_skip ?_ | refine rn_true rfl ?_ | refine rn_false rfl ?_ | refine rn_exit rfl ?_ | refine pl_not rfl rfl ?_)
  refine pl_val (.int .u64 mask) rfl rfl (val_load1 hT rfl rfl rfl (hc.cell rfl)) ?_
  repeat (first | refine pl_pure hT rfl rfl rfl ?_ | refine pl_nil ?_ | refine rn_seq ?_ | refine rn_plain ?_ | refine rn_block ?_ | refine rn_inBlock ?_ | refine rn_skip ?_ | refine rn_true rfl ?_ | refine rn_false rfl ?_ | refine rn_exit rfl ?_ | refine pl_not rfl rfl ?_)
  refine pl_val (.int .i64 ((i % 64 : Nat) : Int)) rfl rfl (val_int .i64 i 64 _ rfl rfl rfl (by simp [intOp]; rfl) w) ?_
  refine pl_val _ rfl rfl (val_shr .u64 .i64 mask ((i % 64 : Nat) : Int) (mask.fdiv (2 ^ (i % 64))) rfl rfl rfl (by omega) (by
    rw [Int.toNat_natCast, show IntKind.u64.bits = 64 from rfl, Nat.min_eq_left (by omega)]) w) ?_
  refine pl_val _ rfl rfl (val_int .u64 _ 1 _ rfl rfl rfl rfl w) ?_
  refine pl_val _ rfl rfl (val_int .u64 _ 1 _ rfl rfl rfl rfl w) ?_
  repeat (first | refine pl_pure hT rfl rfl rfl ?_ | refine pl_nil ?_ | refine rn_seq ?_ | refine rn_plain ?_ | refine rn_block ?_ | refine rn_inBlock ?_ | refine rn_skip ?_ | refine rn_true rfl ?_ | refine rn_false rfl ?_ | refine rn_exit rfl ?_ | refine pl_not rfl rfl ?_)
  exact rn_ret Try.func37 (.inl ⟨_, rfl, rfl⟩) ⟨rfl, rfl⟩

theorem read1_ret {w : World} {c : Nat} {i : Int} {e : TypeId} (hc : Blk w c [.int .i64 i] e) (p : Wr) :
    Ret Try.prog 39 [.agg (wcell p).toArray, .pointer (some ⟨c, 0, none⟩)] w fun v w' => v = .bool ((p.1 : Int) == i) ∧ Keep [] w w' := by
  refine ret_of 8 Try.func39 rfl rfl (by simp) ?_
  repeat (first | refine pl_pure hT rfl rfl rfl ?_ | refine pl_nil ?_ | refine rn_seq ?_ | refine rn_plain ?_ | refine rn_block ?_ | refine rn_inBlock ?_ | refine rn_skip ?_ | refine rn_true rfl ?_ | refine rn_false rfl ?_ | refine rn_exit rfl ?_ | refine pl_not rfl rfl ?_)
  refine pl_op rfl rfl (opTo_box (wcell p) rfl rfl rfl ?_)
  repeat (first | refine pl_pure hT rfl rfl rfl ?_ | refine pl_nil ?_ | refine rn_seq ?_ | refine rn_plain ?_ | refine rn_block ?_ | refine rn_inBlock ?_ | refine rn_skip ?_ | refine rn_true rfl ?_ | refine rn_false rfl ?_ | refine rn_exit rfl ?_ | refine pl_not rfl rfl ?_)
  refine pl_val (.int .i64 p.1) rfl rfl (val_load1 hT rfl rfl rfl ((Blk.new w _ _).cell rfl)) ?_
  refine pl_val (.int .i64 i) rfl rfl (val_load1 hT rfl rfl rfl ((hc.alloc _).cell rfl)) ?_
  refine pl_val (.bool ((p.1 : Int) == i)) rfl rfl (val_int .i64 p.1 i _ rfl rfl rfl rfl _) ?_
  repeat (first | refine pl_pure hT rfl rfl rfl ?_ | refine pl_nil ?_ | refine rn_seq ?_ | refine rn_plain ?_ | refine rn_block ?_ | refine rn_inBlock ?_ | refine rn_skip ?_ | refine rn_true rfl ?_ | refine rn_false rfl ?_ | refine rn_exit rfl ?_ | refine pl_not rfl rfl ?_)
  exact rn_ret Try.func39 (.inl ⟨_, rfl, rfl⟩) ⟨rfl, (Keep.refl _ _).alloc _⟩

/-- The last write of those that are such. -/
def lastOf (is : Wr → Bool) (L : List Wr) : Option Wr := (L.filter is).getLast?

theorem lastOf_none {is : Wr → Bool} {L : List Wr} (h : ∀ p ∈ L.drop 0, is p = false) : lastOf is L = none := by
  have : L.filter is = [] := List.filter_eq_nil_iff.2 fun p hp => by simp [h p (by simpa using hp)]
  simp [lastOf, this]
theorem lastOf_some {is : Wr → Bool} {L : List Wr} {j : Nat} {p : Wr} (hp : L[j]? = some p) (hi : is p = true) (h : ∀ p ∈ L.drop (j + 1), is p = false) : lastOf is L = some p := by
  have hlt : j < L.length := (List.getElem?_eq_some_iff.1 hp).1
  have hj : L[j] = p := (List.getElem?_eq_some_iff.1 hp).2
  have e : L = L.take j ++ p :: L.drop (j + 1) := by
    rw [← hj, List.getElem_cons_drop, List.take_append_drop]
  have h0 : (L.drop (j + 1)).filter is = [] := List.filter_eq_nil_iff.2 fun p hp => by simp [h p hp]
  rw [lastOf, e, List.filter_append, List.filter_cons_of_pos hi, h0]
  simp

theorem wcell_length {p : Wr} (h : p.2.length = 8) : (wcell p).length = 9 := by simp [wcell, ints_length, h]

theorem DiskV.at {B : Nat} {w : World} {d : Nat} {S : List Int} {L : List Wr} {wv : Value} (h : DiskV B w d S L wv) {j : Nat} {p : Wr} (hp : L[j]? = some p) :
    ∃ g cap, wv = .slice (some ⟨g, 0, none⟩) L.length cap ∧ w.rangeAt g (0 + j * 9) (wcell p) := by
  have hlt : j < L.length := (List.getElem?_eq_some_iff.1 hp).1
  have hm : p ∈ L := List.mem_of_getElem? hp
  rcases h.owns.2 with ⟨_, h2⟩ | ⟨g, cap, cur, hv, _⟩
  · omega
  · refine ⟨g, cap, hv, ?_⟩
    have ho := h.owns
    rw [hv] at ho
    refine owns_range ho ?_
    rw [wcell_length (h.wf p hm).2, Nat.zero_add]
    exact flat_at (fun q hq => wcell_length (h.wf q hq).2) hp

theorem zero_write : ((Try.prog.info? 75).bind (·.zero)).map (·.cells) = some (wcell (0, List.replicate 8 0)).toArray := by kernel_rfl
theorem built_write0 : Try.prog.built 75 [] = some (wcell (0, List.replicate 8 0)).toArray := by kernel_rfl
theorem zero_words : ((Try.prog.info? 32).bind (·.zero)).map (·.cells) = some (ints (List.replicate 8 0)).toArray := by kernel_rfl
theorem built_words0 : Try.prog.built 32 [] = some (ints (List.replicate 8 0)).toArray := by kernel_rfl

def wzero : Wr := (0, List.replicate 8 0)

theorem splice_all {L vs : List Value} (h : vs.length = L.length) : splice L 0 vs = vs := by
  simp [splice, h]

theorem wcell_one (p : Wr) : ∀ u ∈ wcell p, u.oneCell' = true := by
  intro u hu
  rcases List.mem_cons.1 hu with rfl | hu
  · rfl
  · exact ints_one p.2 u hu

theorem last_ret {B : Nat} {w : World} {d : Nat} {S : List Int} {L : List Wr} {wv : Value} (h : DiskV B w d S L wv) (hL : L.length < 1000000) (is : Wr → Bool) (g : Nat) (cap : List Value) (hg : callable Try.prog g = true)
    (hclo : ∀ p ∈ L, ∀ w1, Keep [] w w1 → Ret Try.prog g (.agg (wcell p).toArray :: cap) w1 fun v w' => v = .bool (is p) ∧ Keep [] w1 w') :
    Ret Try.prog 38 [.pointer (some ⟨d, 0, none⟩), .func (.func g) #[] cap.toArray] w fun v w' =>
      v = .tuple #[.agg (wcell ((lastOf is L).getD wzero)).toArray, .bool (lastOf is L).isSome] ∧ Keep [] w w' := by
  refine ret_of 34 Try.func38 rfl rfl (by simp) ?_
  repeat (first | refine pl_pure hT rfl rfl rfl ?_ | refine pl_nil ?_ | refine rn_seq ?_ | refine rn_plain ?_ | refine rn_block ?_ | refine rn_inBlock ?_ | refine rn_skip ?_ | refine rn_true rfl ?_ | refine rn_false rfl ?_ | refine rn_exit rfl ?_ | refine pl_not rfl rfl ?_)
  refine pl_op rfl rfl (opTo_alloc _ rfl zero_write ?_)
  have hk1 : Keep [] w (w.alloc (.cells (wcell (0, List.replicate 8 0)).toArray 75)) := (Keep.refl _ _).alloc _
  have hres : Blk (w.alloc (.cells (wcell (0, List.replicate 8 0)).toArray 75)) w.heap.size (wcell (0, List.replicate 8 0)) 75 := Blk.new _ _ _
  have h1 := h.keep hk1 (by simp)
  generalize (w.alloc (.cells (wcell (0, List.replicate 8 0)).toArray 75)) = w1 at *
  repeat (first | refine pl_pure hT rfl rfl rfl ?_ | refine pl_nil ?_ | refine rn_seq ?_ | refine rn_plain ?_ | refine rn_block ?_ | refine rn_inBlock ?_ | refine rn_skip ?_ | refine rn_true rfl ?_ | refine rn_false rfl ?_ | refine rn_exit rfl ?_ | refine pl_not rfl rfl ?_)
  refine pl_val wv rfl rfl (val_load1 hT rfl rfl rfl (h1.blk.cell (by simp [h.len, ints_length]))) ?_
  have hv : ∃ a cap, wv = .slice a L.length cap := by
    rcases h.owns.2 with ⟨h1, h2⟩ | ⟨g, cap, cur, h1, _⟩
    · exact ⟨none, 0, by rw [h1, h2]⟩
    · exact ⟨_, cap, h1⟩
  obtain ⟨wa, wcap, hwv⟩ := hv
  refine pl_val (.int .i64 L.length) rfl rfl (val_pure hT (by subst hwv; rfl) w1) ?_
  refine pl_val (.int .i64 ((L.length : Int) - 1)) rfl rfl (val_int .i64 L.length 1 _ rfl rfl rfl (by simp only [intOp]; rw [wrap_i64 (by omega) (by omega)]) w1) ?_
  repeat (first | refine pl_pure hT rfl rfl rfl ?_ | refine pl_nil ?_ | refine rn_seq ?_ | refine rn_plain ?_ | refine rn_block ?_ | refine rn_inBlock ?_ | refine rn_skip ?_ | refine rn_true rfl ?_ | refine rn_false rfl ?_ | refine rn_exit rfl ?_ | refine pl_not rfl rfl ?_)
  refine rn_ind (fun m σ w' => m ≤ L.length ∧ σ = [(0, .pointer (some ⟨d, 0, none⟩)), (1, .func (.func g) #[] cap.toArray), (4, .pointer (some ⟨w.heap.size, 0, none⟩)), (6, .int .i64 ((m : Int) - 1))] ∧ Keep [] w1 w' ∧ ∀ p ∈ L.drop m, is p = false)
    L.length _ ?_ ⟨Nat.le_refl _, rfl, Keep.refl _ _, by simp⟩ ?_
  · exact ⟨rfl, rfl, rfl, rfl, trivial⟩
  rintro m σ w2 ih ⟨hm, rfl, hk2, hno⟩
  have hkw : Keep [] w w2 := hk1.tr0 hk2
  have h2 := h1.keep hk2 (by simp)
  have hres2 := hk2.blk hres (by simp)
  repeat (first | refine pl_pure hT rfl rfl rfl ?_ | refine pl_nil ?_ | refine rn_seq ?_ | refine rn_plain ?_ | refine rn_block ?_ | refine rn_inBlock ?_ | refine rn_skip ?_ | refine rn_true rfl ?_ | refine rn_false rfl ?_ | refine rn_exit rfl ?_ | refine pl_not rfl rfl ?_)
  cases m with
  | zero =>
    refine pl_val (.bool false) rfl rfl (val_int .i64 _ 0 _ rfl rfl rfl (by simp [intOp]) w2) ?_
    repeat (first | refine pl_pure hT rfl rfl rfl ?_ | refine pl_nil ?_ | refine rn_seq ?_ | refine rn_plain ?_ | refine rn_block ?_ | refine rn_inBlock ?_ | refine rn_skip ?_ | refine rn_true rfl ?_ | refine rn_false rfl ?_ | refine rn_exit rfl ?_ | refine pl_not rfl rfl ?_)
    refine pl_val _ rfl rfl (val_build (wcell wzero) rfl rfl built_write0 w2) ?_
    refine pl_op rfl rfl (opTo_store _ rfl rfl rfl rfl (by kernel_rfl) hres2 (by simp [wcell, wzero, ints]) (wcell_one _) ?_)
    rw [splice_all (show (wcell wzero).length = (wcell (0, List.replicate 8 0)).length from rfl)]
    repeat (first | refine pl_pure hT rfl rfl rfl ?_ | refine pl_nil ?_ | refine rn_seq ?_ | refine rn_plain ?_ | refine rn_block ?_ | refine rn_inBlock ?_ | refine rn_skip ?_ | refine rn_true rfl ?_ | refine rn_false rfl ?_ | refine rn_exit rfl ?_ | refine pl_not rfl rfl ?_)
    have hl := lastOf_none hno
    refine rn_ret Try.func38 (.inr (.inr (.inr (.inl ⟨_, _, _, _, _, _, rfl, rfl, loadVar_agg hT (cs := wcell wzero) rfl ((hres2.set _).range (by simp)), rfl, rfl⟩)))) ⟨?_, hkw.setRow _ _ (.inr (Nat.le_refl _))⟩
    rw [hl]
    rfl
  | succ j =>
    rw [show (((j + 1 : Nat) : Int) - 1) = (j : Int) by omega]
    refine pl_val (.bool true) rfl rfl (val_int .i64 _ 0 _ rfl rfl rfl (by simp [intOp]) w2) ?_
    repeat (first | refine pl_pure hT rfl rfl rfl ?_ | refine pl_nil ?_ | refine rn_seq ?_ | refine rn_plain ?_ | refine rn_block ?_ | refine rn_inBlock ?_ | refine rn_skip ?_ | refine rn_true rfl ?_ | refine rn_false rfl ?_ | refine rn_exit rfl ?_ | refine pl_not rfl rfl ?_)
    obtain ⟨p, hp⟩ : ∃ p, L[j]? = some p := ⟨L[j], List.getElem?_eq_getElem hm⟩
    obtain ⟨gb, gcap, hgv, hrange⟩ := h2.at hp
    have hpm : p ∈ L := List.mem_of_getElem? hp
    have hp8 := (h.wf p hpm).2
    have hcell := h2.blk.cell (i := 0 + 272) (v := wv) (by simp [h.len, ints_length])
    rw [hgv] at hcell
    refine pl_val _ rfl rfl (val_load1 hT rfl rfl rfl hcell) ?_
    repeat (first | refine pl_pure hT rfl rfl rfl ?_ | refine pl_nil ?_ | refine rn_seq ?_ | refine rn_plain ?_ | refine rn_block ?_ | refine rn_inBlock ?_ | refine rn_skip ?_ | refine rn_true rfl ?_ | refine rn_false rfl ?_ | refine rn_exit rfl ?_ | refine pl_not rfl rfl ?_)
    refine pl_val _ rfl rfl (val_index j hT rfl rfl rfl rfl rfl hm w2) ?_
    refine pl_val (.agg (wcell p).toArray) rfl rfl (val_load _ hT rfl rfl (by rw [wcell_length hp8]; rfl) hrange) ?_
    refine pl_op rfl rfl (opTo_call rfl rfl rfl rfl hg ((hclo p hpm w2 hkw).mono ?_))
    rintro v w3 ⟨rfl, hk3⟩
    have hkw3 := hkw.tr0 hk3
    have h3 := h2.keep hk3 (by simp)
    have hres3 := hk3.blk hres2 (by simp)
    cases hi : is p with
    | true =>
      repeat (first | refine pl_pure hT rfl rfl rfl ?_ | refine pl_nil ?_ | refine rn_seq ?_ | refine rn_plain ?_ | refine rn_block ?_ | refine rn_inBlock ?_ | refine rn_skip ?_ | refine rn_true rfl ?_ | refine rn_false rfl ?_ | refine rn_exit rfl ?_ | refine pl_not rfl rfl ?_)
      obtain ⟨gb', gcap', hgv', hrange'⟩ := h3.at hp
      have hcell' := h3.blk.cell (i := 0 + 272) (v := wv) (by simp [h.len, ints_length])
      rw [hgv'] at hcell'
      refine pl_val _ rfl rfl (val_load1 hT rfl rfl rfl hcell') ?_
      repeat (first | refine pl_pure hT rfl rfl rfl ?_ | refine pl_nil ?_ | refine rn_seq ?_ | refine rn_plain ?_ | refine rn_block ?_ | refine rn_inBlock ?_ | refine rn_skip ?_ | refine rn_true rfl ?_ | refine rn_false rfl ?_ | refine rn_exit rfl ?_ | refine pl_not rfl rfl ?_)
      refine pl_val _ rfl rfl (val_index j hT rfl rfl rfl rfl rfl hm w3) ?_
      refine pl_val (.agg (wcell p).toArray) rfl rfl (val_load _ hT rfl rfl (by rw [wcell_length hp8]; rfl) hrange') ?_
      refine pl_op rfl rfl (opTo_store _ rfl rfl rfl rfl (by rw [wcell_length hp8]; decide +kernel) hres3 (by rw [wcell_length hp8]; decide) (wcell_one _) ?_)
      rw [splice_all (by rw [wcell_length hp8]; rfl)]
      repeat (first | refine pl_pure hT rfl rfl rfl ?_ | refine pl_nil ?_ | refine rn_seq ?_ | refine rn_plain ?_ | refine rn_block ?_ | refine rn_inBlock ?_ | refine rn_skip ?_ | refine rn_true rfl ?_ | refine rn_false rfl ?_ | refine rn_exit rfl ?_ | refine pl_not rfl rfl ?_)
      have hl := lastOf_some hp hi hno
      refine rn_ret Try.func38 (.inr (.inr (.inr (.inl ⟨_, _, _, _, _, _, rfl, rfl, loadVar_agg hT (cs := wcell p) (by rw [wcell_length hp8]; rfl) ((hres3.set _).range (by simp)), rfl, rfl⟩)))) ⟨?_, hkw3.setRow _ _ (.inr (Nat.le_refl _))⟩
      rw [hl]
      rfl
    | false =>
      repeat (first | refine pl_pure hT rfl rfl rfl ?_ | refine pl_nil ?_ | refine rn_seq ?_ | refine rn_plain ?_ | refine rn_block ?_ | refine rn_inBlock ?_ | refine rn_skip ?_ | refine rn_true rfl ?_ | refine rn_false rfl ?_ | refine rn_exit rfl ?_ | refine pl_not rfl rfl ?_)
      refine pl_val (.int .i64 ((j : Int) - 1)) rfl rfl (val_int .i64 j 1 _ rfl rfl rfl (by simp only [intOp]; rw [wrap_i64 (by omega) (by omega)]) w3) ?_
      repeat (first | refine pl_pure hT rfl rfl rfl ?_ | refine pl_nil ?_ | refine rn_seq ?_ | refine rn_plain ?_ | refine rn_block ?_ | refine rn_inBlock ?_ | refine rn_skip ?_ | refine rn_true rfl ?_ | refine rn_false rfl ?_ | refine rn_exit rfl ?_ | refine pl_not rfl rfl ?_)
      refine rn_sub ?_ (ih j _ w3 (by omega) ⟨by omega, rfl, hk2.tr0 hk3, fun q hq => ?_⟩)
      · exact ⟨rfl, rfl, rfl, rfl, trivial⟩
      · rw [List.drop_eq_getElem_cons (by omega)] at hq
        rcases List.mem_cons.1 hq with rfl | hq
        · rw [(List.getElem?_eq_some_iff.1 hp).2]; exact hi
        · exact hno q hq
end E
end Go.Proofs.Ytcecheleagljgaa
