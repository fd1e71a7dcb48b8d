/- Contracts of the closures of Crash and Read, of Disk.last and Disk.Read. -/
import Derived.Test.YtcnjmjdnlhiflabDiskB
namespace Go.Proofs.Ytcnjmjdnlhiflab
set_option maxRecDepth 20000
namespace E
open Go.Proofs

/-- Whether a mask has the bit of a number. -/
def maskB (mask : Int) (i : Nat) : Bool := IntKind.u64.wrap (BitVec.ofInt 64 (mask.fdiv (2 ^ (i % 64))) &&& BitVec.ofInt 64 1).toNat == 1

theorem crash1_ret {w : World} {c : Nat} {mask : Int} {e : TypeId} (hc : Blk w c [.int .u64 mask] e) (i : Nat) :
    Ret Try.prog 41 [.int .i64 i, .pointer (some ⟨c, 0, none⟩)] w fun v w' => v = .bool (maskB mask i) ∧ w' = w := by
  refine ret_of 10 Try.func41 rfl rfl (by simp) ?_
  repeat (first | refine pl_pure hT rfl rfl rfl ?_ | refine pl_nil ?_ | refine rn_seq ?_ | refine rn_plain ?_ | refine rn_block ?_ | refine rn_inBlock ?_ | refine rn_skip ?_ | refine rn_true rfl ?_ | refine rn_false rfl ?_ | refine rn_exit rfl ?_ | refine pl_not rfl rfl ?_)
  refine pl_val (.int .u64 mask) rfl rfl (val_load1 hT rfl rfl rfl (hc.cell rfl)) ?_
  repeat (first | refine pl_pure hT rfl rfl rfl ?_ | refine pl_nil ?_ | refine rn_seq ?_ | refine rn_plain ?_ | refine rn_block ?_ | refine rn_inBlock ?_ | refine rn_skip ?_ | refine rn_true rfl ?_ | refine rn_false rfl ?_ | refine rn_exit rfl ?_ | refine pl_not rfl rfl ?_)
  refine pl_val (.int .i64 ((i % 64 : Nat) : Int)) rfl rfl (val_int .i64 i 64 _ rfl rfl rfl (by simp [intOp]; rfl) w) ?_
  refine pl_val _ rfl rfl (val_shr .u64 .i64 mask ((i % 64 : Nat) : Int) (mask.fdiv (2 ^ (i % 64))) rfl rfl rfl (by omega) (by
    rw [Int.toNat_natCast, show IntKind.u64.bits = 64 from rfl, Nat.min_eq_left (by omega)]) w) ?_
  refine pl_val _ rfl rfl (val_int .u64 _ 1 _ rfl rfl rfl rfl w) ?_
  refine pl_val _ rfl rfl (val_int .u64 _ 1 _ rfl rfl rfl rfl w) ?_
  repeat (first | refine pl_pure hT rfl rfl rfl ?_ | refine pl_nil ?_ | refine rn_seq ?_ | refine rn_plain ?_ | refine rn_block ?_ | refine rn_inBlock ?_ | refine rn_skip ?_ | refine rn_true rfl ?_ | refine rn_false rfl ?_ | refine rn_exit rfl ?_ | refine pl_not rfl rfl ?_)
  exact rn_ret Try.func41 (.inl ⟨_, rfl, rfl⟩) ⟨rfl, rfl⟩

/-- The last write of those that are such. -/
def lastOf (is : Wr → Bool) (L : List Wr) : Option Wr := (L.filter is).getLast?

theorem lastOf_none {is : Wr → Bool} {L : List Wr} (h : ∀ p ∈ L.drop 0, is p = false) : lastOf is L = none := by
  have : L.filter is = [] := List.filter_eq_nil_iff.2 fun p hp => by simp [h p (by simpa using hp)]
  simp [lastOf, this]
theorem lastOf_some {is : Wr → Bool} {L : List Wr} {j : Nat} {p : Wr} (hp : L[j]? = some p) (hi : is p = true) (h : ∀ p ∈ L.drop (j + 1), is p = false) : lastOf is L = some p := by
  have hlt : j < L.length := (List.getElem?_eq_some_iff.1 hp).1
  have hj : L[j] = p := (List.getElem?_eq_some_iff.1 hp).2
  have e : L = L.take j ++ p :: L.drop (j + 1) := by
    rw [← hj, List.getElem_cons_drop, List.take_append_drop]
  have h0 : (L.drop (j + 1)).filter is = [] := List.filter_eq_nil_iff.2 fun p hp => by simp [h p hp]
  rw [lastOf, e, List.filter_append, List.filter_cons_of_pos hi, h0]
  simp

theorem wcell_length {p : Wr} (h : p.2.length = 8) : (wcell p).length = 9 := by simp [wcell, ints_length, h]

theorem DiskV.at {B : Nat} {w : World} {d : Nat} {S : List Int} {L : List Wr} {wv : Value} (h : DiskV B w d S L wv) {j : Nat} {p : Wr} (hp : L[j]? = some p) :
    ∃ g cap, wv = .slice (some ⟨g, 0, none⟩) L.length cap ∧ w.rangeAt g (0 + j * 9) (wcell p) := by
  have hlt : j < L.length := (List.getElem?_eq_some_iff.1 hp).1
  have hm : p ∈ L := List.mem_of_getElem? hp
  rcases h.owns.2 with ⟨_, h2⟩ | ⟨g, cap, cur, hv, _⟩
  · omega
  · refine ⟨g, cap, hv, ?_⟩
    have ho := h.owns
    rw [hv] at ho
    refine owns_range ho ?_
    rw [wcell_length (h.wf p hm).2, Nat.zero_add]
    exact flat_at (fun q hq => wcell_length (h.wf q hq).2) hp

theorem zero_write : ((Try.prog.info? 104).bind (·.zero)).map (·.cells) = some (wcell (0, List.replicate 8 0)).toArray := by kernel_rfl
theorem built_write0 : Try.prog.built 104 [] = some (wcell (0, List.replicate 8 0)).toArray := by kernel_rfl
theorem zero_words : ((Try.prog.info? 37).bind (·.zero)).map (·.cells) = some (ints (List.replicate 8 0)).toArray := by kernel_rfl
theorem built_words0 : Try.prog.built 37 [] = some (ints (List.replicate 8 0)).toArray := by kernel_rfl

def wzero : Wr := (0, List.replicate 8 0)

theorem splice_all {L vs : List Value} (h : vs.length = L.length) : splice L 0 vs = vs := by
  simp [splice, h]

theorem wcell_one (p : Wr) : ∀ u ∈ wcell p, u.oneCell' = true := by
  intro u hu
  rcases List.mem_cons.1 hu with rfl | hu
  · rfl
  · exact ints_one p.2 u hu

end E
end Go.Proofs.Ytcnjmjdnlhiflab
