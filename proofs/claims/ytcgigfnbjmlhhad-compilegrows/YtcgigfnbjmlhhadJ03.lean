/- Several texts in one: CmR, ChkI, CmN, CmG, TreeB, CoA, CoB, CoM, CoC. -/
import Derived.Test.YtcgigfnbjmlhhadJ02
import Derived.Test.YtcgigfnbjmlhhadJ01
/- Rows of instructions: as they are made, and as they lie there; append to them. -/
namespace Go.Proofs.Ytcgigfnbjmlhhad
set_option maxRecDepth 20000
set_option maxHeartbeats 4000000
namespace E
open Go.Proofs

abbrev tRI : Nat := 38
def iC (x : Is) : List Value := [.int .i64 x.1, .int .i64 x.2.1, .int .i64 x.2.2.1, .int .i64 x.2.2.2]
theorem iC_length (x : Is) : (iC x).length = 4 := rfl
def isC (l : List Is) : List Value := l.flatMap iC
theorem isC_length (l : List Is) : (isC l).length = l.length * 4 := flat_length fun p _ => iC_length p
theorem isC_one (l : List Is) : ∀ u ∈ isC l, u.oneCell' = true := by
  intro u hu
  simp only [isC, List.mem_flatMap, iC] at hu
  obtain ⟨x, _, hu⟩ := hu
  simp only [List.mem_cons, List.not_mem_nil, or_false] at hu
  rcases hu with rfl | rfl | rfl | rfl <;> rfl
theorem isC_app (a b : List Is) : isC (a ++ b) = isC a ++ isC b := by simp [isC]

/-- A list of instructions that lies there. -/
def InsV (F : Nat → Prop) (w : World) (v : Value) (l : List Is) : Prop := ∃ a cap, v = .slice a l.length cap ∧ (0 < l.length → ∃ b q, a = some ⟨b, q, none⟩ ∧ F b ∧ w.rangeAt b q (isC l))
section
variable {F F' : Nat → Prop} {w w' : World} {v : Value} {l : List Is}
theorem InsV.form (h : InsV F w v l) : ∃ a cap, v = .slice a l.length cap := let ⟨a, cap, h, _⟩ := h; ⟨a, cap, h⟩
theorem InsV.keep {fp : List Nat} (h : InsV F w v l) (hk : Keep fp w w') (hF : ∀ c, F c → c < w.heap.size ∧ c ∉ fp) : InsV F w' v l := by
  obtain ⟨a, cap, h1, h2⟩ := h
  refine ⟨a, cap, h1, fun h0 => ?_⟩
  obtain ⟨b, q, h3, h4, h5⟩ := h2 h0
  exact ⟨b, q, h3, h4, range_keep h5 hk (hF b h4).1 (hF b h4).2⟩
theorem InsV.mono (h : InsV F w v l) (hF : ∀ c, F c → F' c) : InsV F' w v l := by
  obtain ⟨a, cap, h1, h2⟩ := h
  refine ⟨a, cap, h1, fun h0 => ?_⟩
  obtain ⟨b, q, h3, h4, h5⟩ := h2 h0
  exact ⟨b, q, h3, hF b h4, h5⟩
theorem InsV.at (h : InsV F w v l) {i : Nat} {x : Is} (hx : l[i]? = some x) : ∃ b q cap, v = .slice (some ⟨b, q, none⟩) l.length cap ∧ F b ∧ w.rangeAt b (q + i * 4) (iC x) := by
  obtain ⟨a, cap, h1, h2⟩ := h
  have hi := (List.getElem?_eq_some_iff.1 hx).1
  obtain ⟨b, q, h3, h4, h5⟩ := h2 (by omega)
  refine ⟨b, q, cap, by rw [h1, h3], h4, fun j u hu => ?_⟩
  have hf : ((isC l).drop (i * 4)).take 4 = iC x := flat_at (fun p _ => iC_length p) hx
  have := h5 (i * 4 + j) u (by
    have hj : j < 4 := by have := (List.getElem?_eq_some_iff.1 hu).1; simpa [iC_length] using this
    rw [← hf, List.getElem?_take, if_pos hj, List.getElem?_drop] at hu
    exact hu)
  rw [← Nat.add_assoc] at this
  exact this
theorem InsV.nil : InsV F w (.slice none 0 0) [] := ⟨none, 0, rfl, fun h => absurd h (by simp)⟩
end

/-- A row of instructions that is being made, of blocks from B on. -/
def RowI (e : Nat) (w : World) (B : Nat) (v : Value) (l : List Is) : Prop := Own w B e 4 v l.length (isC l)
section
variable {e B : Nat} {w w' : World} {v : Value} {l : List Is}
theorem RowI.nil (e : Nat) (w : World) (B : Nat) : RowI e w B (.slice none 0 0) [] := Own.nil w B e 4
theorem RowI.form (h : RowI e w B v l) : ∃ a cap, v = .slice a l.length cap := Own.form h
theorem RowI.ins (h : RowI e w B v l) : InsV (fun c => B ≤ c ∧ c < w.heap.size) w v l := by
  rcases h.2 with ⟨h1, h2⟩ | ⟨g, cap, cur, h1, hB, hb, hc, hl, ht⟩
  · exact ⟨none, 0, by rw [h1, h2], fun h0 => by omega⟩
  · exact ⟨_, cap, h1, fun h0 => ⟨g, 0, rfl, ⟨hB, hb.lt⟩, hb.range (by rw [List.drop_zero, isC_length]; exact ht)⟩⟩
theorem RowI.keep {fp : List Nat} (h : RowI e w B v l) (hk : Keep fp w w') (hf : ∀ k ∈ fp, k < B) : RowI e w' B v l := Own.keep h hk fun k hv hm => by
  have := (Own.lt h k hv).1
  have := hf k hm
  omega
theorem RowI.keep0 (h : RowI e w B v l) (hk : Keep [] w w') : RowI e w' B v l := h.keep hk fun _ hm => by cases hm
theorem RowI.lower (h : RowI e w B v l) {B' : Nat} (hB : B' ≤ B) : RowI e w B' v l := by
  refine ⟨h.1, ?_⟩
  rcases h.2 with h0 | ⟨g, cap, cur, h1, hb, r⟩
  · exact .inl h0
  · exact .inr ⟨g, cap, cur, h1, by omega, r⟩
theorem RowI.own (h : RowI e w B v l) : ∀ k ∈ v.ownBlock.toList, B ≤ k ∧ k < w.heap.size := fun k hk => Own.lt h k (by simpa using hk)
end

section
variable {P : Program} {n : Nat} {σ : Env} {o : Oper} {w : World} {v : Value} {K : Value → World → Prop}
/-- append(s, x...), x with nothing in it. -/
theorem opTo_appZ {t : TypeId} {s x : Operand} {a : Option Addr} {c ln B e size bytes : Nat} {xs : List Value} (ho : o.op = .call { callee := .builtin .append, args := #[s, x], argTypes := #[t, t] }) (hs : ev σ s = some v) (hx : ev σ x = some (.slice a 0 c))
    (hP : appOk P t e size bytes = true) (hown : Own w B e size v ln xs) (hK : K v w) : OpTo P n σ o w K := by
  obtain ⟨i, z, hu, hi, hz, hsize, hby, hzs⟩ := appOk_run hP
  have hr : (Builtin.append_ #[t, t] o.type #[v, .slice a 0 c]).run P w = .ok v w := by
    rcases hown.2 with ⟨rfl, rfl⟩ | ⟨g, cap, cur, rfl, _, _, hnc, _⟩
    · cases a <;> simp [Builtin.append_, run_underlying hu, sizeOf, typeInfo, hi, Builtin.lenOf, Builtin.firstCells, loadCells, loadCellsFrom]
    · cases a <;> simp [Builtin.append_, run_underlying hu, sizeOf, typeInfo, hi, Builtin.lenOf, Builtin.firstCells, loadCells, loadCellsFrom, hnc, storeCells]
  refine opTo_run (w' := w) (v := v) (fun ac ha => ?_) hK
  simp [execOp, ho, resolve, invoke, builtin, ha.eval hs, ha.eval hx, hr]
/-- append(s, x...), of instructions. -/
theorem opTo_rowApp {t : TypeId} {s x : Operand} {e B : Nat} {F : Nat → Prop} {vx : Value} (l m : List Is) (ho : o.op = .call { callee := .builtin .append, args := #[s, x], argTypes := #[t, t] }) (hs : ev σ s = some v) (hx : ev σ x = some vx)
    (hP : appOk P t e 4 32 = true) (hrow : RowI e w B v l) (hm : InsV F w vx m) (hb : l.length + m.length ≤ 1000000) (hB : B ≤ w.heap.size)
    (hK : ∀ v' w', RowI e w' B v' (l ++ m) → Keep v.ownBlock.toList w w' → K v' w') : OpTo P n σ o w K := by
  obtain ⟨a, cap, rfl, h2⟩ := hm
  by_cases h0 : 0 < m.length
  · obtain ⟨b, q, rfl, _, hr⟩ := h2 h0
    refine opTo_app B e 4 32 (isC l) (isC m) ho hs hx hP hrow hr (isC_length m) (isC_one m) h0 (by unfold maxLen; omega) (by omega) hB ?_
    intro g c w' hown hk
    rw [← isC_app, ← List.length_append] at hown
    refine hK _ _ (by rw [← List.length_append]; exact hown) ?_
    rcases hk with ⟨h3, _, h4⟩ | ⟨_, h4, _⟩
    · rw [h3]; exact h4
    · exact h4.of0
  · have hm0 : m = [] := List.eq_nil_of_length_eq_zero (by omega)
    subst hm0
    refine opTo_appZ ho hs hx hP hrow (hK _ _ ?_ (Keep.refl _ _))
    rw [List.append_nil]
    exact hrow
end
section
variable {P : Program} {n : Nat} {σ : Env} {o : Oper} {w : World}
def intSl (P : Program) (t e : Nat) : Bool :=
  match P.underlying t with
  | some (.slice e') => e' == e && (match P.info? e with
    | some i => i.size == 1 && i.bytes == 8 && (match i.zero with | some (.int .i64 z) => z == 0 | _ => false)
    | none => false)
  | _ => false
theorem made_ints (len : Nat) : madeCells #[Value.int .i64 0] (len * 1) = (List.replicate len (Value.int .i64 0)).toArray := by
  apply Array.ext
  · simp [size_madeCells]
  · intro i h1 h2
    simp [madeCells, Nat.mod_one]
theorem opTo_makeI {t : TypeId} {l c : Operand} {k1 k2 : IntKind} {K : Value → World → Prop} (e len : Nat) (ho : o.op = .makeSlice t l c) (hl : ev σ l = some (.int k1 (len : Nat))) (hc : ev σ c = some (.int k2 (len : Nat)))
    (hP : intSl P t e = true) (hlen : len ≤ 1000000) (hK : ∀ w1 b, b = w.heap.size → w1.heap.size = b + 1 → Keep [] w w1 → Blk w1 b (List.replicate len (.int .i64 0)) e → K (.slice (some ⟨b, 0, none⟩) len len) w1) : OpTo P n σ o w K := by
  unfold intSl at hP
  split at hP
  · rename_i e' hu
    simp only [Bool.and_eq_true, beq_iff_eq] at hP
    obtain ⟨rfl, hP⟩ := hP
    split at hP
    · rename_i i hi
      simp only [Bool.and_eq_true, beq_iff_eq] at hP
      obtain ⟨⟨h1, h2⟩, h3⟩ := hP
      split at h3
      · rename_i z hz
        have : z = 0 := by simpa using h3
        subst this
        exact opTo_make len (List.replicate len (.int .i64 0)) i _ ho hl hc hu hi hz (by rw [h2]; omega) (by omega) (by rw [h1]; exact made_ints len) (hK _ _ rfl (World.size_alloc _ _) ((Keep.refl _ _).alloc _) (Blk.new _ _ _))
      · cases h3
    · cases hP
  · cases hP
end
end E
end Go.Proofs.Ytcgigfnbjmlhhad

/- Plain mathematics of programs: what a check tells of their parts. -/
namespace Go.Proofs.Ytcgigfnbjmlhhad
set_option maxRecDepth 20000
set_option maxHeartbeats 4000000
namespace E

def zeroT : ET := .mk 0 0 0 []
/-! ### What a check tells -/
theorem chkE_inv {nv : Nat} {op v n : Int} {l : List ET} {d k k' : Nat} (h : chkE nv (.mk op v n l) d k = .ok k') : d ≤ 12 ∧ ownE nv op v n l.length = 0 ∧ ∃ k1, chkEs nv l (d + 1) k1 = .ok k' := by
  simp only [chkE] at h
  obtain ⟨k1, h1, h2⟩ := nextK_ok h
  split at h2
  · cases h2
  · rename_i h3
    exact ⟨(headK_ok h1).2.1, by simpa using h3, k1, h2⟩
theorem chkEs_inv {nv : Nat} {t : ET} {r : List ET} {d k k' : Nat} (h : chkEs nv (t :: r) d k = .ok k') : (∃ k1, chkE nv t d k = .ok k1) ∧ ∃ k1, chkEs nv r d k1 = .ok k' := by
  simp only [chkEs] at h
  obtain ⟨k1, h1, h2⟩ := nextK_ok h
  exact ⟨⟨k1, h1⟩, k1, h2⟩
theorem chkS_inv {nv : Nat} {op v : Int} {e f : ET} {b o : List ST} {d k k' : Nat} (h : chkS nv (.mk op v e f b o) d k = .ok k') : d ≤ 12 ∧ ownS nv op v e f b.length o.length = 0 ∧
    (needE op = true → ∃ k1 k2, chkE nv e (d + 1) k1 = .ok k2) ∧ (needF op = true → ∃ k1 k2, chkE nv f (d + 1) k1 = .ok k2) ∧ (∃ k1 k2, chkSs nv b (d + 1) k1 = .ok k2) ∧ ∃ k1 k2, chkSs nv o (d + 1) k1 = .ok k2 := by
  simp only [chkS] at h
  obtain ⟨k1, h1, h2⟩ := nextK_ok h
  split at h2
  · cases h2
  · rename_i h3
    obtain ⟨k2, h4, h5⟩ := nextK_ok h2
    obtain ⟨k3, h6, h7⟩ := nextK_ok h5
    obtain ⟨k4, h8, h9⟩ := nextK_ok h7
    refine ⟨(headK_ok h1).2.1, by simpa using h3, fun he => ⟨k1, k2, ?_⟩, fun hf => ⟨k2, k3, ?_⟩, ⟨_, _, h8⟩, _, _, h9⟩
    · rw [if_pos he] at h4; exact h4
    · rw [if_pos hf] at h6; exact h6
theorem chkSs_inv {nv : Nat} {t : ST} {r : List ST} {d k k' : Nat} (h : chkSs nv (t :: r) d k = .ok k') : (∃ k1, chkS nv t d k = .ok k1) ∧ ∃ k1, chkSs nv r d k1 = .ok k' := by
  simp only [chkSs] at h
  obtain ⟨k1, h1, h2⟩ := nextK_ok h
  exact ⟨⟨k1, h1⟩, k1, h2⟩
theorem varK_in {nv : Nat} {v : Int} (h : varK nv v true = 0) : 0 ≤ v ∧ v.toNat < nv := by
  unfold varK at h
  rw [if_pos rfl] at h
  split at h
  · cases h
  · omega
theorem varK_no {nv : Nat} {v : Int} (h : varK nv v false = 0) : v = 0 := by
  unfold varK at h
  rw [if_neg (by decide)] at h
  split at h
  · cases h
  · omega
theorem ownE_inv {nv : Nat} {op v n : Int} {len : Nat} (h : ownE nv op v n len = 0) : 1 ≤ op ∧ op ≤ 8 ∧ partsOf op = (len : Int) ∧ (op ≠ 1 → n = 0) ∧ (op = 2 ∨ op = 3 → 0 ≤ v ∧ v.toNat < nv) ∧ (¬ (op = 2 ∨ op = 3) → v = 0) := by
  unfold ownE at h
  split at h
  · cases h
  · rename_i h1
    split at h
    · cases h
    · rename_i h2
      split at h
      · cases h
      · rename_i h3
        have hop : 1 ≤ op ∧ op ≤ 8 := by
          unfold partsOf at h1
          split at h1
          · omega
          · split at h1
            · omega
            · split at h1 <;> omega
        refine ⟨hop.1, hop.2, by simpa using h2, fun h4 => ?_, fun h4 => ?_, fun h4 => ?_⟩
        · by_cases hn : n = 0
          · exact hn
          · exact absurd ⟨h4, hn⟩ h3
        · have e : (op == 2 || op == 3) = true := by simpa using h4
          rw [e] at h
          exact varK_in h
        · have e : (op == 2 || op == 3) = false := by
            cases hb : (op == 2 || op == 3) with
            | false => rfl
            | true => exact absurd (by simpa using hb) h4
          rw [e] at h
          exact varK_no h
theorem zeroT_eq {t : ET} (h : zeroE t = true) : t = zeroT := by
  obtain ⟨op, v, n, l⟩ := t
  simp only [zeroE, Bool.and_eq_true, beq_iff_eq, List.isEmpty_iff] at h
  obtain ⟨⟨⟨rfl, rfl⟩, rfl⟩, rfl⟩ := h
  rfl
theorem ownS_inv {nv : Nat} {op v : Int} {e f : ET} {lb lo : Nat} (h : ownS nv op v e f lb lo = 0) : 1 ≤ op ∧ op ≤ 7 ∧ (needE op = false → e = zeroT) ∧ (needF op = false → f = zeroT) ∧ (needB op = false → lb = 0) ∧ (needO op = false → lo = 0) ∧
    (needV op = true → 0 ≤ v ∧ v.toNat < nv) ∧ (needV op = false → v = 0) := by
  unfold ownS at h
  split at h
  · cases h
  · rename_i h1
    split at h
    · cases h
    · rename_i h2
      split at h
      · cases h
      · rename_i h3
        simp only [Bool.or_eq_true, Bool.and_eq_true, Bool.not_eq_true', not_or, not_and, Bool.not_eq_false] at h2
        simp only [Bool.or_eq_true, Bool.and_eq_true, Bool.not_eq_true', not_or, not_and, decide_eq_true_eq] at h3
        refine ⟨by omega, by omega, fun h4 => zeroT_eq (h2.1 h4), fun h4 => zeroT_eq (h2.2 h4), fun h4 => by have := h3.1 h4; omega, fun h4 => by have := h3.2 h4; omega, fun h4 => ?_, fun h4 => ?_⟩
        · rw [h4] at h; exact varK_in h
        · rw [h4] at h; exact varK_no h
end E
end Go.Proofs.Ytcgigfnbjmlhhad

/- Plain mathematics of instructions, second part: the stack is enough; jumps go where none is on it. -/
namespace Go.Proofs.Ytcgigfnbjmlhhad
set_option maxRecDepth 20000
set_option maxHeartbeats 4000000
namespace E

section
variable {c A B : Int}
theorem ok_else (c A : Int) : OkI c 1 (13, A, 0, 0) := ⟨by show popI 13 ≤ 1; decide, by show 1 - popI 13 + pushI 13 ≤ 24; decide, fun _ => by show 1 - popI 13 + pushI 13 = 0; decide, by show (13 : Int) ≠ 16; decide, fun hc => absurd hc (by show ¬ ((13 : Int) = 2 ∨ (13 : Int) = 9 ∨ (13 : Int) = 12); decide), fun hc => absurd hc (by show ¬ ((13 : Int) = 3 ∨ (13 : Int) = 10); decide)⟩
theorem ok_jump (c A : Int) : OkI c 0 (14, A, 0, 0) := ⟨by show popI 14 ≤ 0; decide, by show 0 - popI 14 + pushI 14 ≤ 24; decide, fun _ => by show 0 - popI 14 + pushI 14 = 0; decide, by show (14 : Int) ≠ 16; decide, fun hc => absurd hc (by show ¬ ((14 : Int) = 2 ∨ (14 : Int) = 9 ∨ (14 : Int) = 12); decide), fun hc => absurd hc (by show ¬ ((14 : Int) = 3 ∨ (14 : Int) = 10); decide)⟩
theorem ok_set (h0 : 0 ≤ A) (h1 : A < c) : OkI c 1 (9, A, 0, 0) := ⟨by show popI 9 ≤ 1; decide, by show 1 - popI 9 + pushI 9 ≤ 24; decide, fun hc => absurd hc (by show ¬ ((9 : Int) = 13 ∨ (9 : Int) = 14); decide), by show (9 : Int) ≠ 16; decide, fun _ => ⟨h0, h1⟩, fun hc => absurd hc (by show ¬ ((9 : Int) = 3 ∨ (9 : Int) = 10); decide)⟩
theorem ok_read (h0 : 0 ≤ A) (h1 : A < c) : OkI c 0 (12, A, 0, 0) := ⟨by show popI 12 ≤ 0; decide, by show 0 - popI 12 + pushI 12 ≤ 24; decide, fun hc => absurd hc (by show ¬ ((12 : Int) = 13 ∨ (12 : Int) = 14); decide), by show (12 : Int) ≠ 16; decide, fun _ => ⟨h0, h1⟩, fun hc => absurd hc (by show ¬ ((12 : Int) = 3 ∨ (12 : Int) = 10); decide)⟩
theorem ok_put (h0 : 0 ≤ A) (h1 : 1 ≤ B) (h2 : A + B ≤ c) : OkI c 2 (10, A, B, 0) := ⟨by show popI 10 ≤ 2; decide, by show 2 - popI 10 + pushI 10 ≤ 24; decide, fun hc => absurd hc (by show ¬ ((10 : Int) = 13 ∨ (10 : Int) = 14); decide), by show (10 : Int) ≠ 16; decide, fun hc => absurd hc (by show ¬ ((10 : Int) = 2 ∨ (10 : Int) = 9 ∨ (10 : Int) = 12); decide), fun _ => ⟨h0, h1, h2⟩⟩
end
section
variable {vs : List VarT}
theorem parts_le {op : Int} {len : Nat} (h : partsOf op = (len : Int)) : len ≤ 2 ∧ (op = 1 ∨ op = 2 → len = 0) ∧ (op = 3 → len = 1) ∧ (4 ≤ op → len = 2) := by
  unfold partsOf at h
  split at h
  · omega
  · split at h
    · omega
    · split at h <;> omega
mutual
theorem sim_E (hB : Big vs) : ∀ (t : ET) {d k k' : Nat}, chkE vs.length t d k = .ok k' → ∀ (n : Nat), n + (13 - d) ≤ 24 → Sim (sumV vs) n (insE vs t) (n + 1)
  | .mk op v m l, d, k, k', h, n, hn => by
    obtain ⟨hd, h1, k1, h2⟩ := chkE_inv h
    obtain ⟨a1, a2, a3, _, a5, _⟩ := ownE_inv h1
    obtain ⟨p1, p2, p3, p4⟩ := parts_le a3
    have ih := sim_Es hB l h2 n (by omega)
    simp only [insE]
    refine ih.app ?_
    have hop : op = 1 ∨ op = 2 ∨ op = 3 ∨ (4 ≤ op ∧ op ≤ 8) := by omega
    have hpop : popI op = l.length := by
      unfold popI
      split
      · rename_i hc
        have : op = 3 := by omega
        rw [p3 this]
      · split
        · rename_i hc
          rw [p4 (by omega)]
        · rw [p2 (by omega)]
    have hpush : pushI op = 1 := by
      unfold pushI
      rw [if_pos (by omega)]
    refine Sim.one' ⟨?_, ?_, fun hj => ?_, ?_, fun hc => ?_, fun hc => ?_⟩ ?_
    · show popI op ≤ _; omega
    · show n + l.length - popI op + pushI op ≤ 24
      have : 1 ≤ 13 - d := by omega
      omega
    · exact absurd hj (by simp only; omega)
    · show op ≠ 16; omega
    · have h2 : op = 2 := by simp only at hc; omega
      obtain ⟨c1, c2, c3⟩ := cell_in hB (a5 (.inl h2)).2
      simp only
      rw [if_pos (.inl h2)]
      omega
    · have h3 : op = 3 := by simp only at hc; omega
      obtain ⟨c1, c2, c3⟩ := cell_in hB (a5 (.inr h3)).2
      simp only
      rw [if_pos (.inr h3), if_pos h3]
      omega
    · show n + l.length - popI op + pushI op = n + 1; omega
theorem sim_Es (hB : Big vs) : ∀ (l : List ET) {d k k' : Nat}, chkEs vs.length l d k = .ok k' → ∀ (n : Nat), n + l.length + (13 - d) ≤ 25 → Sim (sumV vs) n (insEs vs l) (n + l.length)
  | [], _, _, _, _, n, _ => by simp only [insEs, List.length_nil, Nat.add_zero]; exact .nil n
  | t :: r, d, k, k', h, n, hn => by
    obtain ⟨⟨k1, h1⟩, k2, h2⟩ := chkEs_inv h
    simp only [List.length_cons] at hn
    have i1 := sim_E hB t h1 n (by omega)
    have i2 := sim_Es hB r h2 (n + 1) (by omega)
    simp only [insEs, List.length_cons]
    have e : n + (r.length + 1) = n + 1 + r.length := by omega
    rw [e]
    exact i1.app i2
end
theorem sim_eI (hB : Big vs) {op : Int} {e : ET} {d k k' : Nat} (hd : needE op = true → chkE vs.length e (d + 1) k = .ok k') : Sim (sumV vs) 0 (eI vs op e) (if needE op then 1 else 0) := by
  unfold eI
  cases hn : needE op with
  | false => exact .nil 0
  | true => exact sim_E hB e (hd hn) 0 (by omega)

mutual
theorem sim_S (hB : Big vs) : ∀ (t : ST) {d k k' : Nat}, chkS vs.length t d k = .ok k' → ∀ (i0 : Nat), Sim (sumV vs) 0 (insS vs t i0) 0
  | .mk op v e f b o, d, k, k', h, i0 => by
    obtain ⟨hd, h1, h2, h3, ⟨k1, k2, h4⟩, k3, k4, h5⟩ := chkS_inv h
    obtain ⟨a1, a2, _, _, _, _, a7, _⟩ := ownS_inv h1
    have se : Sim (sumV vs) 0 (eI vs op e) (if needE op then 1 else 0) := by
      unfold eI
      cases hn : needE op with
      | false => exact .nil 0
      | true =>
        obtain ⟨_, _, hc⟩ := h2 hn
        exact sim_E hB e hc 0 (by omega)
    have sb := fun i => sim_Ss hB b h4 i
    have so := fun i => sim_Ss hB o h5 i
    simp only [insS]
    split
    · rename_i h6
      subst h6
      have se' : Sim (sumV vs) 0 (eI vs 5 e) 1 := se
      unfold whileI
      exact se'.app (.cons (ok_else _ _) ((sb _).app (Sim.one' (ok_jump _ _) rfl)))
    · split
      · rename_i h6
        subst h6
        have se' : Sim (sumV vs) 0 (eI vs 6 e) 1 := se
        unfold ifI
        exact se'.app (.cons (ok_else _ _) ((sb _).app (.cons (ok_jump _ _) (so _))))
      · have hop : op = 1 ∨ op = 2 ∨ op = 3 ∨ op = 4 ∨ op = 7 := by omega
        rcases hop with rfl | rfl | rfl | rfl | rfl
        · obtain ⟨c1, c2, c3⟩ := cell_in hB (a7 rfl).2
          have se' : Sim (sumV vs) 0 (eI vs 1 e) 1 := se
          refine se'.app (Sim.one' (ok_set c1 (by omega)) rfl)
        · obtain ⟨c1, c2, c3⟩ := cell_in hB (a7 rfl).2
          have se' : Sim (sumV vs) 0 (eI vs 2 e) 1 := se
          obtain ⟨_, _, hc⟩ := h3 rfl
          have sf : Sim (sumV vs) 1 (fI vs 2 f) 2 := sim_E hB f hc 1 (by omega)
          refine se'.app (sf.app (Sim.one' (ok_put c1 c2 c3) rfl))
        · have se' : Sim (sumV vs) 0 (eI vs 3 e) 1 := se
          refine se'.app (Sim.one' (x := (11, 0, 0, 0)) ⟨by decide, by decide, fun hc => absurd hc (by decide), by decide, fun hc => absurd hc (by decide), fun hc => absurd hc (by decide)⟩ (by decide))
        · obtain ⟨c1, c2, c3⟩ := cell_in hB (a7 rfl).2
          have se' : Sim (sumV vs) 0 (eI vs 4 e) 0 := se
          refine se'.app (Sim.one' (ok_read c1 (by omega)) rfl)
        · have se' : Sim (sumV vs) 0 (eI vs 7 e) 0 := se
          refine se'.app (Sim.one' (x := (15, 0, 0, 0)) ⟨by decide, by decide, fun hc => absurd hc (by decide), by decide, fun hc => absurd hc (by decide), fun hc => absurd hc (by decide)⟩ (by decide))
theorem sim_Ss (hB : Big vs) : ∀ (l : List ST) {d k k' : Nat}, chkSs vs.length l d k = .ok k' → ∀ (i0 : Nat), Sim (sumV vs) 0 (insSs vs l i0) 0
  | [], _, _, _, _, _ => .nil 0
  | t :: r, d, k, k', h, i0 => by
    obtain ⟨⟨k1, h1⟩, k2, h2⟩ := chkSs_inv h
    exact (sim_S hB t h1 i0).app (sim_Ss hB r h2 _)
end

/-- A jump of these goes to a place of these, or behind them, where none is on the stack. -/
def Jmp (c : Int) (i0 : Nat) (l : List Is) (x : Is) : Prop := ∃ k : Nat, x.2.1 = ((i0 + k : Nat) : Int) ∧ k ≤ l.length ∧ Sim c 0 (l.take k) 0
def Jmps (c : Int) (i0 : Nat) (l : List Is) : Prop := ∀ x ∈ l, x.1 = 13 ∨ x.1 = 14 → Jmp c i0 l x
theorem Jmp.right {c : Int} {i0 : Nat} {a b : List Is} {x : Is} (h : Jmp c i0 a x) : Jmp c i0 (a ++ b) x := by
  obtain ⟨k, h1, h2, h3⟩ := h
  exact ⟨k, h1, by simp; omega, by rw [List.take_append_of_le_length h2]; exact h3⟩
theorem Jmp.left {c : Int} {i0 : Nat} {a b : List Is} {x : Is} (ha : Sim c 0 a 0) (h : Jmp c (i0 + a.length) b x) : Jmp c i0 (a ++ b) x := by
  obtain ⟨k, h1, h2, h3⟩ := h
  refine ⟨a.length + k, by rw [h1]; congr 1; omega, by simp; omega, ?_⟩
  rw [List.take_append, List.take_of_length_le (by omega)]
  have e : a.length + k - a.length = k := by omega
  rw [e]
  exact ha.app h3
theorem Jmps.app {c : Int} {i0 : Nat} {a b : List Is} (ha : Sim c 0 a 0) (h : Jmps c i0 a) (h' : Jmps c (i0 + a.length) b) : Jmps c i0 (a ++ b) := fun x hx hj => by
  rcases List.mem_append.1 hx with hx | hx
  · exact (h x hx hj).right
  · exact (h' x hx hj).left ha
mutual
theorem noJ_E : ∀ (t : ET) {d k k' : Nat}, chkE vs.length t d k = .ok k' → ∀ x ∈ insE vs t, x.1 ≤ 8
  | .mk op v m l, d, k, k', h, x, hx => by
    obtain ⟨hd, h1, k1, h2⟩ := chkE_inv h
    obtain ⟨a1, a2, _⟩ := ownE_inv h1
    simp only [insE, List.mem_append, List.mem_singleton] at hx
    rcases hx with hx | rfl
    · exact noJ_Es l h2 x hx
    · exact a2
theorem noJ_Es : ∀ (l : List ET) {d k k' : Nat}, chkEs vs.length l d k = .ok k' → ∀ x ∈ insEs vs l, x.1 ≤ 8
  | [], _, _, _, _, x, hx => by simp [insEs] at hx
  | t :: r, d, k, k', h, x, hx => by
    obtain ⟨⟨k1, h1⟩, k2, h2⟩ := chkEs_inv h
    simp only [insEs, List.mem_append] at hx
    rcases hx with hx | hx
    · exact noJ_E t h1 x hx
    · exact noJ_Es r h2 x hx
end
mutual
theorem jmp_S (hB : Big vs) : ∀ (t : ST) {d k k' : Nat}, chkS vs.length t d k = .ok k' → ∀ (i0 : Nat), Jmps (sumV vs) i0 (insS vs t i0)
  | .mk op v e f b o, d, k, k', h, i0 => by
    have hsim := sim_S hB (.mk op v e f b o) h i0
    obtain ⟨hd, h1, h2, h3, ⟨k1, k2, h4⟩, k3, k4, h5⟩ := chkS_inv h
    obtain ⟨a1, a2, _, _, _, _, a7, _⟩ := ownS_inv h1
    have ne : ∀ x ∈ eI vs op e, x.1 ≤ 8 := by
      unfold eI
      split
      · rename_i hn
        obtain ⟨_, _, hc⟩ := h2 hn
        exact noJ_E e hc
      · simp
    have nf : ∀ x ∈ fI vs op f, x.1 ≤ 8 := by
      unfold fI
      split
      · rename_i hn
        obtain ⟨_, _, hc⟩ := h3 hn
        exact noJ_E f hc
      · simp
    have sb := fun i => sim_Ss hB b h4 i
    have so := fun i => sim_Ss hB o h5 i
    have jb := fun i => jmp_Ss hB b h4 i
    have jo := fun i => jmp_Ss hB o h5 i
    have whole : Jmp (sumV vs) i0 (insS vs (.mk op v e f b o) i0) (14, ((i0 + (insS vs (.mk op v e f b o) i0).length : Nat) : Int), 0, 0) := ⟨_, rfl, Nat.le_refl _, by rw [List.take_length]; exact hsim⟩
    have begin0 : ∀ l, Jmp (sumV vs) i0 l (14, ((i0 : Nat) : Int), 0, 0) := fun l => ⟨0, by simp, by omega, by simp only [List.take_zero]; exact .nil 0⟩
    simp only [insS] at hsim whole ⊢
    split
    · rename_i h6
      subst h6
      rw [if_pos rfl] at hsim whole
      obtain ⟨E, hE⟩ : ∃ E, E = eI vs 5 e := ⟨_, rfl⟩
      rw [← hE] at hsim whole ne ⊢
      obtain ⟨X, hX⟩ : ∃ X, X = insSs vs b (i0 + E.length + 1) := ⟨_, rfl⟩
      have sX := sb (i0 + E.length + 1)
      have jX := jb (i0 + E.length + 1)
      rw [← hX] at hsim whole sX jX ⊢
      have head0 : Sim (sumV vs) 0 (E ++ [(13, ((i0 + E.length + 1 + X.length + 1 : Nat) : Int), 0, 0)]) 0 := by
        have se' : Sim (sumV vs) 0 E 1 := by
          rw [hE]
          unfold eI
          obtain ⟨_, _, hc⟩ := h2 rfl
          exact sim_E hB e hc 0 (by omega)
        exact se'.app (Sim.one' (ok_else _ _) rfl)
      have ew : whileI i0 E X = (E ++ [(13, ((i0 + E.length + 1 + X.length + 1 : Nat) : Int), 0, 0)]) ++ (X ++ [(14, ((i0 : Nat) : Int), 0, 0)]) := by simp [whileI]
      have lw : (whileI i0 E X).length = E.length + 1 + X.length + 1 := by simp [whileI]; omega
      intro x hx hj
      have hx' := hx
      simp only [whileI, List.mem_append, List.mem_cons, List.not_mem_nil, or_false] at hx'
      rcases hx' with hx' | rfl | hx' | rfl
      · have := ne x hx'; omega
      · obtain ⟨q, q1, q2, q3⟩ := whole
        exact ⟨(whileI i0 E X).length, by rw [lw]; simp only; congr 1; omega, Nat.le_refl _, by rw [List.take_length]; exact hsim⟩
      · have := (jX x hx' hj).right (b := [(14, ((i0 : Nat) : Int), 0, 0)])
        rw [ew]
        refine Jmp.left head0 ?_
        have el : i0 + (E ++ [(13, ((i0 + E.length + 1 + X.length + 1 : Nat) : Int), 0, 0)] : List Is).length = i0 + E.length + 1 := by simp; omega
        rw [el]
        exact this
      · exact begin0 _
    · split
      · rename_i h5' h6
        subst h6
        rw [if_neg (by decide), if_pos rfl] at hsim whole
        obtain ⟨E, hE⟩ : ∃ E, E = eI vs 6 e := ⟨_, rfl⟩
        rw [← hE] at hsim whole ne ⊢
        obtain ⟨X, hX⟩ : ∃ X, X = insSs vs b (i0 + E.length + 1) := ⟨_, rfl⟩
        have sX := sb (i0 + E.length + 1)
        have jX := jb (i0 + E.length + 1)
        rw [← hX] at hsim whole sX jX ⊢
        obtain ⟨Y, hY⟩ : ∃ Y, Y = insSs vs o (i0 + E.length + 1 + X.length + 1) := ⟨_, rfl⟩
        have sY := so (i0 + E.length + 1 + X.length + 1)
        have jY := jo (i0 + E.length + 1 + X.length + 1)
        rw [← hY] at hsim whole sY jY ⊢
        obtain ⟨H, hH⟩ : ∃ H : List Is, H = E ++ [(13, ((i0 + E.length + 1 + X.length + 1 : Nat) : Int), 0, 0)] := ⟨_, rfl⟩
        obtain ⟨J, hJ⟩ : ∃ J : Is, J = (14, ((i0 + E.length + 1 + X.length + 1 + Y.length : Nat) : Int), 0, 0) := ⟨_, rfl⟩
        have head0 : Sim (sumV vs) 0 H 0 := by
          have se' : Sim (sumV vs) 0 E 1 := by
            rw [hE]
            unfold eI
            obtain ⟨_, _, hc⟩ := h2 rfl
            exact sim_E hB e hc 0 (by omega)
          rw [hH]
          exact se'.app (Sim.one' (ok_else _ _) rfl)
        have hHl : H.length = E.length + 1 := by rw [hH]; simp
        have sJ : Sim (sumV vs) 0 [J] 0 := by
          rw [hJ]
          exact Sim.one' (ok_jump _ _) rfl
        have ew : ifI i0 E X Y = (H ++ (X ++ [J])) ++ Y := by rw [hH, hJ]; simp [ifI]
        have lw : (ifI i0 E X Y).length = E.length + 1 + X.length + 1 + Y.length := by rw [ew]; simp [hHl]; omega
        have sHX : Sim (sumV vs) 0 (H ++ (X ++ [J])) 0 := head0.app (sX.app sJ)
        have lHX : (H ++ (X ++ [J])).length = E.length + 1 + X.length + 1 := by simp [hHl]; omega
        intro x hx hj
        have hx' := hx
        simp only [ifI, List.mem_append, List.mem_cons] at hx'
        rcases hx' with hx' | rfl | hx' | rfl | hx'
        · have := ne x hx'; omega
        · refine ⟨E.length + 1 + X.length + 1, by simp only; congr 1; omega, by omega, ?_⟩
          rw [ew, List.take_append_of_le_length (by omega), List.take_of_length_le (by omega)]
          exact sHX
        · have h7 := (jX x hx' hj).right (b := [J])
          rw [ew]
          refine Jmp.right (Jmp.left head0 ?_)
          rw [hHl]
          exact h7
        · exact ⟨(ifI i0 E X Y).length, by rw [lw]; simp only; congr 1; omega, Nat.le_refl _, by rw [List.take_length]; exact hsim⟩
        · have h7 := jY x hx' hj
          rw [ew]
          refine Jmp.left sHX ?_
          rw [lHX]
          have e7 : i0 + (E.length + 1 + X.length + 1) = i0 + E.length + 1 + X.length + 1 := by omega
          rw [e7]
          exact h7
      · intro x hx hj
        simp only [List.mem_append, List.mem_singleton] at hx
        rcases hx with hx | hx | rfl
        · have := ne x hx; omega
        · have := nf x hx; omega
        · exfalso
          unfold lastI at hj
          repeat' split at hj
          all_goals simp at hj
theorem jmp_Ss (hB : Big vs) : ∀ (l : List ST) {d k k' : Nat}, chkSs vs.length l d k = .ok k' → ∀ (i0 : Nat), Jmps (sumV vs) i0 (insSs vs l i0)
  | [], _, _, _, _, _ => fun x hx => by simp [insSs] at hx
  | t :: r, d, k, k', h, i0 => by
    obtain ⟨⟨k1, h1⟩, k2, h2⟩ := chkSs_inv h
    exact Jmps.app (sim_S hB t h1 i0) (jmp_S hB t h1 i0) (jmp_Ss hB r h2 _)
end
end
end E
end Go.Proofs.Ytcgigfnbjmlhhad

/- What a tree must be for its instructions to be made; what a check tells of that. -/
namespace Go.Proofs.Ytcgigfnbjmlhhad
set_option maxRecDepth 20000
set_option maxHeartbeats 4000000
namespace E

mutual
def gdE (nv : Nat) : ET → Prop
  | .mk op v _ l => (op = 2 ∨ op = 3 → 0 ≤ v ∧ v.toNat < nv) ∧ gdEs nv l
def gdEs (nv : Nat) : List ET → Prop
  | [] => True
  | t :: r => gdE nv t ∧ gdEs nv r
end
mutual
def gdS (nv : Nat) : ST → Prop
  | .mk op v e f b o => 1 ≤ op ∧ op ≤ 7 ∧ (needV op = true → 0 ≤ v ∧ v.toNat < nv) ∧ (needE op = true → gdE nv e) ∧ (needF op = true → gdE nv f) ∧ gdSs nv b ∧ gdSs nv o
def gdSs (nv : Nat) : List ST → Prop
  | [] => True
  | t :: r => gdS nv t ∧ gdSs nv r
end
theorem gdEs_at {nv : Nat} : ∀ {l : List ET} {i : Nat} {t : ET}, gdEs nv l → l[i]? = some t → gdE nv t
  | [], _, _, _, h => by simp at h
  | x :: r, 0, t, h, e => by simp at e; subst e; exact h.1
  | x :: r, i + 1, t, h, e => by simp at e; exact gdEs_at h.2 e
theorem gdSs_at {nv : Nat} : ∀ {l : List ST} {i : Nat} {t : ST}, gdSs nv l → l[i]? = some t → gdS nv t
  | [], _, _, _, h => by simp at h
  | x :: r, 0, t, h, e => by simp at e; subst e; exact h.1
  | x :: r, i + 1, t, h, e => by simp at e; exact gdSs_at h.2 e
mutual
theorem chkE_gd {nv : Nat} : ∀ (t : ET) {d k k' : Nat}, chkE nv t d k = .ok k' → gdE nv t
  | .mk op v n l, d, k, k', h => by
    obtain ⟨_, h1, k1, h2⟩ := chkE_inv h
    obtain ⟨_, _, _, _, c, _⟩ := ownE_inv h1
    exact ⟨c, chkEs_gd l h2⟩
theorem chkEs_gd {nv : Nat} : ∀ (l : List ET) {d k k' : Nat}, chkEs nv l d k = .ok k' → gdEs nv l
  | [], _, _, _, _ => trivial
  | t :: r, d, k, k', h => by
    obtain ⟨⟨k1, h1⟩, k2, h2⟩ := chkEs_inv h
    exact ⟨chkE_gd t h1, chkEs_gd r h2⟩
end
mutual
theorem chkS_gd {nv : Nat} : ∀ (t : ST) {d k k' : Nat}, chkS nv t d k = .ok k' → gdS nv t
  | .mk op v e f b o, d, k, k', h => by
    obtain ⟨_, h1, h2, h3, ⟨k1, k2, h4⟩, k3, k4, h5⟩ := chkS_inv h
    obtain ⟨a, a', _, _, _, _, c, _⟩ := ownS_inv h1
    exact ⟨a, a', c, fun hn => (let ⟨_, _, hc⟩ := h2 hn; chkE_gd e hc), fun hn => (let ⟨_, _, hc⟩ := h3 hn; chkE_gd f hc), chkSs_gd b h4, chkSs_gd o h5⟩
theorem chkSs_gd {nv : Nat} : ∀ (l : List ST) {d k k' : Nat}, chkSs nv l d k = .ok k' → gdSs nv l
  | [], _, _, _, _ => trivial
  | t :: r, d, k, k', h => by
    obtain ⟨⟨k1, h1⟩, k2, h2⟩ := chkSs_inv h
    exact ⟨chkS_gd t h1, chkSs_gd r h2⟩
end
theorem insS_pos (vs : List VarT) : ∀ (t : ST) (i0 : Nat), 0 < (insS vs t i0).length
  | .mk op v e f b o, i0 => by
    simp only [insS]
    split
    · simp only [whileI, List.length_append, List.length_cons]; omega
    · split
      · simp only [ifI, List.length_append, List.length_cons]; omega
      · simp only [List.length_append, List.length_cons]; omega
theorem insE_pos (vs : List VarT) : ∀ (t : ET), 0 < (insE vs t).length
  | .mk op v n l => by simp [insE]
end E
end Go.Proofs.Ytcgigfnbjmlhhad

/- One statement, one expression of a row, field by field. -/
namespace Go.Proofs.Ytcgigfnbjmlhhad
set_option maxRecDepth 20000
set_option maxHeartbeats 4000000
namespace E

theorem range_subT {w : World} {b p : Nat} {cs ds : List Value} (h : w.rangeAt b p cs) (k : Nat) (hd : (cs.drop k).take ds.length = ds) : w.rangeAt b (p + k) ds := fun j u hu => by
  rw [← hd, List.getElem?_take] at hu
  split at hu
  · rw [List.getElem?_drop] at hu
    have := h (k + j) u hu
    rwa [← Nat.add_assoc] at this
  · cases hu

def scells (op v : Int) (ce cf : List Value) (bv ov : Value) : List Value := [.int .i64 op, .int .i64 v] ++ ce ++ cf ++ [bv, ov]

/-- The statement at p of block b, field by field. -/
structure StmtAt (F : Nat → Prop) (w : World) (b p : Nat) (op v : Int) (e f : ET) (lb lo : List ST) (ce cf : List Value) (bv ov : Value) : Prop where
  whole : w.rangeAt b p (scells op v ce cf bv ov)
  cop : w.cell? ⟨b, p + 0, none⟩ = some (.int .i64 op)
  cv : w.cell? ⟨b, p + 1, none⟩ = some (.int .i64 v)
  re : w.rangeAt b (p + 2) ce
  rf : w.rangeAt b (p + 6) cf
  cb : w.cell? ⟨b, p + 10, none⟩ = some bv
  co : w.cell? ⟨b, p + 11, none⟩ = some ov
  he : ExprV F w ce e
  hf : ExprV F w cf f
  hb : StmtsV F w bv lb
  ho : StmtsV F w ov lo
  inF : F b

theorem list4 {cs : List Value} (h : cs.length = 4) : ∃ a b c d, cs = [a, b, c, d] := by
  match cs, h with
  | [a, b, c, d], _ => exact ⟨a, b, c, d, rfl⟩

theorem stmtAt_mk {F : Nat → Prop} {w : World} {b p : Nat} {op v : Int} {e f : ET} {lb lo : List ST} {ce cf : List Value} {bv ov : Value} (h : w.rangeAt b p (scells op v ce cf bv ov)) (hF : F b) (he : ExprV F w ce e) (hf : ExprV F w cf f) (hb : StmtsV F w bv lb) (ho : StmtsV F w ov lo) : StmtAt F w b p op v e f lb lo ce cf bv ov := by
  obtain ⟨a0, a1, a2, a3, rfl⟩ := list4 he.length
  obtain ⟨b0, b1, b2, b3, rfl⟩ := list4 hf.length
  exact ⟨h, h 0 _ rfl, h 1 _ rfl, range_subT h 2 rfl, range_subT h 6 rfl, h 10 _ rfl, h 11 _ rfl, he, hf, hb, ho, hF⟩

theorem StmtsV.stmtAt {F : Nat → Prop} {w : World} {x : Value} {l : List ST} (h : StmtsV F w x l) {i : Nat} {op v : Int} {e f : ET} {lb lo : List ST} (ht : l[i]? = some (.mk op v e f lb lo)) :
    ∃ b q cap ce cf bv ov, x = .slice (some ⟨b, q, none⟩) l.length cap ∧ StmtAt F w b (q + i * 12) op v e f lb lo ce cf bv ov := by
  obtain ⟨b, q, cap, ci, hv, hF, hra, hci⟩ := h.at ht
  obtain ⟨ce, cf, bv, ov, rfl, he, hf, hb, ho⟩ := hci.inv
  exact ⟨b, q, cap, ce, cf, bv, ov, hv, stmtAt_mk hra hF he hf hb ho⟩

theorem StmtAt.keep {F : Nat → Prop} {w w' : World} {b p : Nat} {op v : Int} {e f : ET} {lb lo : List ST} {ce cf : List Value} {bv ov : Value} {fp : List Nat} (h : StmtAt F w b p op v e f lb lo ce cf bv ov) (hk : Keep fp w w') (hs : Stays F w fp) : StmtAt F w' b p op v e f lb lo ce cf bv ov :=
  stmtAt_mk (range_keep h.whole hk (hs b h.inF).1 (hs b h.inF).2) h.inF (h.he.keep hk hs) (h.hf.keep hk hs) (h.hb.keep hk hs) (h.ho.keep hk hs)
theorem StmtAt.stmt {F : Nat → Prop} {w : World} {b p : Nat} {op v : Int} {e f : ET} {lb lo : List ST} {ce cf : List Value} {bv ov : Value} (h : StmtAt F w b p op v e f lb lo ce cf bv ov) : StmtV F w (scells op v ce cf bv ov) (.mk op v e f lb lo) := StmtV.of h.he h.hf h.hb h.ho

/-- The expression at p of block b, field by field. -/
structure ExprAt (F : Nat → Prop) (w : World) (b p : Nat) (op v n : Int) (l : List ET) (lv : Value) : Prop where
  whole : w.rangeAt b p [.int .i64 op, .int .i64 v, .int .i64 n, lv]
  cop : w.cell? ⟨b, p + 0, none⟩ = some (.int .i64 op)
  cv : w.cell? ⟨b, p + 1, none⟩ = some (.int .i64 v)
  cn : w.cell? ⟨b, p + 2, none⟩ = some (.int .i64 n)
  cl : w.cell? ⟨b, p + 3, none⟩ = some lv
  hl : ExprsV F w lv l
  inF : F b
theorem exprAt_mk {F : Nat → Prop} {w : World} {b p : Nat} {op v n : Int} {l : List ET} {lv : Value} (h : w.rangeAt b p [.int .i64 op, .int .i64 v, .int .i64 n, lv]) (hF : F b) (hl : ExprsV F w lv l) : ExprAt F w b p op v n l lv :=
  ⟨h, h 0 _ rfl, h 1 _ rfl, h 2 _ rfl, h 3 _ rfl, hl, hF⟩
theorem ExprsV.exprAt {F : Nat → Prop} {w : World} {x : Value} {l : List ET} (h : ExprsV F w x l) {i : Nat} {op v n : Int} {l' : List ET} (ht : l[i]? = some (.mk op v n l')) :
    ∃ b q cap lv, x = .slice (some ⟨b, q, none⟩) l.length cap ∧ ExprAt F w b (q + i * 4) op v n l' lv := by
  obtain ⟨b, q, cap, ci, hv, hF, hra, hci⟩ := h.at ht
  obtain ⟨lv, rfl, hl⟩ := hci.inv
  exact ⟨b, q, cap, lv, hv, exprAt_mk hra hF hl⟩
theorem ExprAt.expr {F : Nat → Prop} {w : World} {b p : Nat} {op v n : Int} {l : List ET} {lv : Value} (h : ExprAt F w b p op v n l lv) : ExprV F w [.int .i64 op, .int .i64 v, .int .i64 n, lv] (.mk op v n l) := ExprV.of h.hl
end E
end Go.Proofs.Ytcgigfnbjmlhhad

/- Contracts of the document's functions that go through a program's trees: how many parts, and whether it is great. -/
namespace Go.Proofs.Ytcgigfnbjmlhhad
set_option maxRecDepth 20000
set_option maxHeartbeats 4000000
namespace E
open Go.Proofs


theorem exprParts_ret : ∀ (k : Nat) (t : ET), szE t ≤ k → ∀ {F : Nat → Prop} {w : World} {cs : List Value} (most : Nat), ExprV F w cs t → In F w → most ≤ 900 →
    Ret Try.prog 24 [.agg cs.toArray, .int .i64 (most : Nat)] w fun v w' => v = .int .i64 ((min (szE t) (most + 1) : Nat)) ∧ Keep [] w w' := by
  intro k
  induction k with
  | zero => intro t ht; have := szE_pos t; omega
  | succ k ih =>
    intro t ht F w cs most h hF hm
    obtain ⟨op, v, n, l⟩ := t
    obtain ⟨lv, rfl, hl⟩ := h.inv
    obtain ⟨a, cap, rfl⟩ := hl.form
    simp only [szE] at ht ⊢
    refine ret_of 31 Try.func24 rfl rfl (by simp) ?_
    refine au ?_
    refine pl_op rfl rfl (opTo_box [.int .i64 op, .int .i64 v, .int .i64 n, .slice a l.length cap] rfl rfl rfl ?_)
    have hk0 : Keep [] w (w.alloc (.cells [.int .i64 op, .int .i64 v, .int .i64 n, .slice a l.length cap].toArray 47)) := (Keep.refl _ _).alloc _
    have hb0 : Blk (w.alloc (.cells [.int .i64 op, .int .i64 v, .int .i64 n, .slice a l.length cap].toArray 47)) w.heap.size [.int .i64 op, .int .i64 v, .int .i64 n, .slice a l.length cap] 47 := Blk.new _ _ _
    generalize (w.alloc (.cells [.int .i64 op, .int .i64 v, .int .i64 n, .slice a l.length cap].toArray 47)) = w1 at *
    generalize w.heap.size = b at *
    refine au ?_
    refine rn_ind (fun m σ w' => ∃ i nn : Nat, i ≤ l.length ∧ m = l.length - i ∧ σ = [(1, .int .i64 (most : Nat)), (2, .pointer (some ⟨b, 0, none⟩)), (5, .int .i64 (nn : Nat)), (6, .int .i64 (i : Nat))] ∧ nn = min (1 + szEs (l.take i)) (most + 1) ∧
      Blk w' b [.int .i64 op, .int .i64 v, .int .i64 n, .slice a l.length cap] 47 ∧ Keep [] w w') l.length _ ?_ ⟨0, 1, by omega, by omega, rfl, by simp [szEs], hb0, hk0⟩ ?_
    · exact ⟨rfl, rfl, rfl, rfl, trivial⟩
    rintro m σ w2 ih2 ⟨i, nn, hi, rfl, rfl, hn, hb2, hk2⟩
    refine au ?_
    refine pl_val _ rfl rfl (val_load1 hT rfl rfl rfl (hb2.cell rfl)) ?_
    refine au ?_
    have hle := szEs_take l i
    have hge := szEs_ge hi
    by_cases hlt : i < l.length
    · refine ye ?_
      refine au ?_
      by_cases hnm : nn ≤ most
      · refine ye ?_
        refine au ?_
        refine pl_val _ rfl rfl (val_load1 hT rfl rfl rfl (hb2.cell rfl)) ?_
        refine au ?_
        have hget : l[i]? = some l[i] := List.getElem?_eq_getElem hlt
        obtain ⟨bb, q, cap', ci, hv, _, hra, hci⟩ := (hl.keep hk2 hF.stays).at hget
        cases hv
        refine pl_val _ rfl rfl (val_index i hT rfl rfl rfl rfl rfl hlt w2) ?_
        refine pl_val (.agg ci.toArray) rfl rfl (val_load ci hT rfl rfl (by rw [hci.length]; rfl) hra) ?_
        refine au ?_
        refine pl_num (((most - nn : Nat) : Int)) rfl rfl rfl rfl rfl (by simp only [ariP]; omega) ?_
        have hsz := szEs_at hget
        have hsu := szEs_succ hget
        refine pl_op rfl rfl (opTo_call rfl rfl rfl rfl (by decide +kernel) ((ih l[i] (by omega) (most - nn) hci (hF.keep hk2) (by omega)).mono ?_))
        rintro v3 w3 ⟨rfl, hk3⟩
        refine pl_num (((nn + min (szE l[i]) (most - nn + 1) : Nat) : Int)) rfl rfl rfl rfl rfl (by simp only [ariP]; omega) ?_
        refine au ?_
        refine pl_num (((i + 1 : Nat) : Int)) rfl rfl rfl rfl rfl (by simp only [ariP]; omega) ?_
        refine au ?_
        refine rn_sub ?_ (ih2 (l.length - (i + 1)) [(1, .int .i64 (most : Nat)), (2, .pointer (some ⟨b, 0, none⟩)), (5, .int .i64 ((nn + min (szE l[i]) (most - nn + 1) : Nat) : Int)), (6, .int .i64 ((i + 1 : Nat) : Int))] w3 (by omega)
          ⟨i + 1, _, by omega, rfl, rfl, by omega, hk3.blk hb2 (by simp), hk2.tr hk3⟩)
        exact ⟨rfl, rfl, rfl, rfl, trivial⟩
      · refine nay ?_
        refine au ?_
        refine rn_ret Try.func24 (.inl ⟨_, rfl, rfl⟩) ⟨?_, hk2⟩
        congr 1
        omega
    · refine nay ?_
      refine au ?_
      refine rn_ret Try.func24 (.inl ⟨_, rfl, rfl⟩) ⟨?_, hk2⟩
      have : l.take i = l := List.take_of_length_le (by omega)
      rw [this] at hn
      congr 1
      omega

/-- As many as they are, as far as so many. -/
def Cnt (s most x : Nat) : Prop := (s ≤ most → x = s) ∧ (most < s → most < x) ∧ x ≤ 2 * most + 3

theorem stmtParts_ret : ∀ (k : Nat) (l : List ST), szSs l < k → ∀ {F : Nat → Prop} {w : World} {x : Value} (most : Nat), StmtsV F w x l → In F w → most ≤ 900 →
    Ret Try.prog 15 [x, .int .i64 (most : Nat)] w fun v w' => ∃ c : Nat, v = .int .i64 (c : Nat) ∧ Cnt (szSs l) most c ∧ Keep [] w w' := by
  intro k
  induction k with
  | zero => intro l ht; omega
  | succ k ih =>
    intro l ht F w x most h hF hm
    obtain ⟨a, cap, rfl⟩ := h.form
    refine ret_of 69 Try.func15 rfl rfl (by simp) ?_
    refine au ?_
    refine rn_ind (fun m σ w' => ∃ i nn : Nat, i ≤ l.length ∧ m = l.length - i ∧ σ = [(0, .slice a l.length cap), (1, .int .i64 (most : Nat)), (5, .int .i64 (nn : Nat)), (6, .int .i64 (i : Nat))] ∧ Cnt (szSs (l.take i)) most nn ∧ Keep [] w w')
      l.length _ ?_ ⟨0, 0, by omega, by omega, rfl, by simp [szSs, Cnt], Keep.refl _ _⟩ ?_
    · exact ⟨rfl, rfl, rfl, rfl, trivial⟩
    rintro m σ w2 ih2 ⟨i, nn, hi, rfl, rfl, ⟨hn1, hn2, hn3⟩, hk2⟩
    refine au ?_
    have hle := szSs_take l i
    have hge := szSs_ge hi
    by_cases hlt : i < l.length
    · refine ye ?_
      refine au ?_
      by_cases hnm : nn ≤ most
      · refine ye ?_
        refine au ?_
        have hget : l[i]? = some l[i] := List.getElem?_eq_getElem hlt
        have hsz := szSs_at hget
        have hsu := szSs_succ hget
        obtain ⟨op, v, e, f, lb, lo, hs⟩ : ∃ op v e f lb lo, l[i] = ST.mk op v e f lb lo := by cases l[i]; exact ⟨_, _, _, _, _, _, rfl⟩
        rw [hs] at hget hsz hsu
        simp only [szS] at hsz hsu
        obtain ⟨bb, q, cap', ce, cf, bv, ov, hv, hst⟩ := (h.keep hk2 hF.stays).stmtAt hget
        cases hv
        have hF2 := hF.keep hk2
        refine rn_draw (fun w' => Keep [] w2 w') [] hMix ?_
        have hS : Keep [] w2 w2.drew := (Keep.refl _ _).drew
        generalize w2.drew = w3 at *
        refine tk 0 ?_
        refine tk 1 ?_
        refine tk 2 ?_
        refine dr_any 3 _ rfl (by decide +kernel) rfl rfl (fun w => val_index i hT rfl rfl rfl rfl rfl hlt w) ?_
        refine tk 4 ?_
        refine dr_val 5 (.agg ce.toArray) rfl (by decide +kernel) rfl rfl (fun w' hS => val_load ce hT rfl rfl (by rw [hst.he.length]; rfl) (hst.keep hS hF2.stays).re) hS ?_
        refine tk 6 ?_
        refine tk 7 ?_
        refine dr_num 8 (((most - nn : Nat) : Int)) rfl (by decide +kernel) rfl rfl rfl rfl rfl (by simp only [ariP]; omega) ?_
        refine tk 11 ?_
        refine tk 12 ?_
        refine dr_any 13 _ rfl (by decide +kernel) rfl rfl (fun w => val_index i hT rfl rfl rfl rfl rfl hlt w) ?_
        refine tk 14 ?_
        refine dr_val 15 (.agg cf.toArray) rfl (by decide +kernel) rfl rfl (fun w' hS => val_load cf hT rfl rfl (by rw [hst.hf.length]; rfl) (hst.keep hS hF2.stays).rf) hS ?_
        refine tk 16 ?_
        refine tk 17 ?_
        refine dr_num 18 (((most - nn : Nat) : Int)) rfl (by decide +kernel) rfl rfl rfl rfl rfl (by simp only [ariP]; omega) ?_
        refine dr_op 9 rfl (by decide +kernel) rfl rfl (opTo_call rfl rfl rfl rfl (by decide +kernel) ((exprParts_ret _ e (Nat.le_refl _) (most - nn) (hst.keep hS hF2.stays).he (hF2.keep hS) (by omega)).mono ?_))
        rintro v4 w4 ⟨rfl, hk4⟩
        replace hS := hS.tr hk4
        refine ⟨fun _ => hS, ?_⟩
        refine dr_num 10 (((1 + min (szE e) (most - nn + 1) : Nat) : Int)) rfl (by decide +kernel) rfl rfl rfl rfl rfl (by simp only [ariP]; omega) ?_
        refine dr_op 19 rfl (by decide +kernel) rfl rfl (opTo_call rfl rfl rfl rfl (by decide +kernel) ((exprParts_ret _ f (Nat.le_refl _) (most - nn) (hst.keep hS hF2.stays).hf (hF2.keep hS) (by omega)).mono ?_))
        rintro v5 w5 ⟨rfl, hk5⟩
        replace hS := hS.tr hk5
        refine ⟨fun _ => hS, ?_⟩
        refine dr_num 20 (((1 + min (szE e) (most - nn + 1) + min (szE f) (most - nn + 1) : Nat) : Int)) rfl (by decide +kernel) rfl rfl rfl rfl rfl (by simp only [ariP]; omega) ?_
        refine dr_num 21 (((nn + (1 + min (szE e) (most - nn + 1) + min (szE f) (most - nn + 1)) : Nat) : Int)) rfl (by decide +kernel) rfl rfl rfl rfl rfl (by simp only [ariP]; omega) ?_
        refine tk 22 ?_
        refine dr_done (by decide +kernel) ?_
        replace hst := hst.keep hS hF2.stays
        replace hF2 := hF2.keep hS
        replace hk2 := hk2.tr hS
        have hc : Cnt (szSs (l.take i) + (1 + szE e + szE f)) most (nn + (1 + min (szE e) (most - nn + 1) + min (szE f) (most - nn + 1))) := by
          refine ⟨fun h => ?_, fun h => ?_, ?_⟩ <;> omega
        generalize nn + (1 + min (szE e) (most - nn + 1) + min (szE f) (most - nn + 1)) = n1 at *
        obtain ⟨hc1, hc2, hc3⟩ := hc
        refine au ?_
        by_cases h1 : n1 ≤ most
        · refine ye ?_
          refine au ?_
          refine pl_val _ rfl rfl (val_index i hT rfl rfl rfl rfl rfl hlt w5) ?_
          refine au ?_
          refine pl_val _ rfl rfl (val_load1 hT rfl rfl rfl (hst.cb)) ?_
          refine au ?_
          refine pl_num (((most - n1 : Nat) : Int)) rfl rfl rfl rfl rfl (by simp only [ariP]; omega) ?_
          refine pl_op rfl rfl (opTo_call rfl rfl rfl rfl (by decide +kernel) ((ih lb (by omega) (most - n1) hst.hb hF2 (by omega)).mono ?_))
          rintro v6 w6 ⟨c6, rfl, ⟨hd1, hd2, hd3⟩, hk6⟩
          refine pl_num (((n1 + c6 : Nat) : Int)) rfl rfl rfl rfl rfl (by simp only [ariP]; omega) ?_
          refine au ?_
          replace hst := hst.keep hk6 hF2.stays
          replace hF2 := hF2.keep hk6
          replace hk2 := hk2.tr hk6
          by_cases h2 : n1 + c6 ≤ most
          · refine ye ?_
            refine au ?_
            refine pl_val _ rfl rfl (val_index i hT rfl rfl rfl rfl rfl hlt w6) ?_
            refine au ?_
            refine pl_val _ rfl rfl (val_load1 hT rfl rfl rfl (hst.co)) ?_
            refine au ?_
            refine pl_num (((most - (n1 + c6) : Nat) : Int)) rfl rfl rfl rfl rfl (by simp only [ariP]; omega) ?_
            refine pl_op rfl rfl (opTo_call rfl rfl rfl rfl (by decide +kernel) ((ih lo (by omega) (most - (n1 + c6)) hst.ho hF2 (by omega)).mono ?_))
            rintro v7 w7 ⟨c7, rfl, ⟨he1, he2, he3⟩, hk7⟩
            refine pl_num (((n1 + c6 + c7 : Nat) : Int)) rfl rfl rfl rfl rfl (by simp only [ariP]; omega) ?_
            refine au ?_
            refine pl_num (((i + 1 : Nat) : Int)) rfl rfl rfl rfl rfl (by simp only [ariP]; omega) ?_
            refine au ?_
            refine rn_sub ?_ (ih2 (l.length - (i + 1)) [(0, .slice (some ⟨bb, q, none⟩) l.length cap), (1, .int .i64 (most : Nat)), (5, .int .i64 ((n1 + c6 + c7 : Nat) : Int)), (6, .int .i64 ((i + 1 : Nat) : Int))] w7 (by omega)
              ⟨i + 1, _, by omega, rfl, rfl, ?_, hk2.tr hk7⟩)
            · exact ⟨rfl, rfl, rfl, rfl, trivial⟩
            · refine ⟨fun h => ?_, fun h => ?_, ?_⟩ <;> omega
          · refine nay ?_
            refine au ?_
            refine pl_num (((i + 1 : Nat) : Int)) rfl rfl rfl rfl rfl (by simp only [ariP]; omega) ?_
            refine au ?_
            refine rn_sub ?_ (ih2 (l.length - (i + 1)) [(0, .slice (some ⟨bb, q, none⟩) l.length cap), (1, .int .i64 (most : Nat)), (5, .int .i64 ((n1 + c6 : Nat) : Int)), (6, .int .i64 ((i + 1 : Nat) : Int))] w6 (by omega)
              ⟨i + 1, _, by omega, rfl, rfl, ?_, hk2⟩)
            · exact ⟨rfl, rfl, rfl, rfl, trivial⟩
            · refine ⟨fun h => ?_, fun h => ?_, ?_⟩ <;> omega
        · refine nay ?_
          refine au ?_
          refine nay ?_
          refine au ?_
          refine pl_num (((i + 1 : Nat) : Int)) rfl rfl rfl rfl rfl (by simp only [ariP]; omega) ?_
          refine au ?_
          refine rn_sub ?_ (ih2 (l.length - (i + 1)) [(0, .slice (some ⟨bb, q, none⟩) l.length cap), (1, .int .i64 (most : Nat)), (5, .int .i64 ((n1 : Nat) : Int)), (6, .int .i64 ((i + 1 : Nat) : Int))] w5 (by omega)
              ⟨i + 1, _, by omega, rfl, rfl, ?_, hk2⟩)
          · exact ⟨rfl, rfl, rfl, rfl, trivial⟩
          · refine ⟨fun h => ?_, fun h => ?_, ?_⟩ <;> omega
      · refine nay ?_
        refine au ?_
        refine rn_ret Try.func15 (.inl ⟨_, rfl, rfl⟩) ⟨nn, rfl, ?_, hk2⟩
        refine ⟨fun h => ?_, fun h => ?_, ?_⟩ <;> omega
    · refine nay ?_
      refine au ?_
      refine rn_ret Try.func15 (.inl ⟨_, rfl, rfl⟩) ⟨nn, rfl, ?_, hk2⟩
      have : l.take i = l := List.take_of_length_le (by omega)
      rw [this] at hn1 hn2
      exact ⟨hn1, hn2, hn3⟩
end E
end Go.Proofs.Ytcgigfnbjmlhhad

/- Contracts of package code's smallest functions: what a kind has, what a name is. -/
namespace Go.Proofs.Ytcgigfnbjmlhhad
set_option maxRecDepth 20000
set_option maxHeartbeats 4000000
namespace E
open Go.Proofs

theorem parts_ret (op : Int) (w : World) : Ret Try.prog 59 [.int .i64 op] w fun v w' => v = .int .i64 (partsOf op) ∧ w' = w := by
  refine ret_of 20 Try.func59 rfl rfl (by simp) ?_
  have h : op < 1 ∨ op > 8 ∨ op = 1 ∨ op = 2 ∨ op = 3 ∨ (4 ≤ op ∧ op ≤ 8) := by omega
  rcases h with h | h | h | h | h | h <;> (refine aub ?_; refine rn_ret Try.func59 (.inl ⟨_, rfl, rfl⟩) ⟨?_, rfl⟩; congr 1; (unfold partsOf; repeat' split) <;> omega)

def hasV (op : Int) : Value := .tuple #[.bool (needE op), .bool (needF op), .bool (needV op), .bool (needB op), .bool (needO op)]

theorem has_ret (op : Int) (w : World) : Ret Try.prog 45 [.int .i64 op] w fun v w' => v = hasV op ∧ w' = w := by
  refine ret_of 20 Try.func45 rfl rfl (by simp) ?_
  have h : op = 1 ∨ op = 2 ∨ op = 3 ∨ op = 4 ∨ op = 5 ∨ op = 6 ∨ (op ≠ 1 ∧ op ≠ 2 ∧ op ≠ 3 ∧ op ≠ 4 ∧ op ≠ 5 ∧ op ≠ 6) := by omega
  rcases h with h | h | h | h | h | h | h
  · subst h; refine aub ?_; exact rn_ret5 Try.func45 rfl rfl rfl rfl rfl rfl ⟨rfl, rfl⟩
  · subst h; refine aub ?_; exact rn_ret5 Try.func45 rfl rfl rfl rfl rfl rfl ⟨rfl, rfl⟩
  · subst h; refine aub ?_; exact rn_ret5 Try.func45 rfl rfl rfl rfl rfl rfl ⟨rfl, rfl⟩
  · subst h; refine aub ?_; exact rn_ret5 Try.func45 rfl rfl rfl rfl rfl rfl ⟨rfl, rfl⟩
  · subst h; refine aub ?_; exact rn_ret5 Try.func45 rfl rfl rfl rfl rfl rfl ⟨rfl, rfl⟩
  · subst h; refine aub ?_; exact rn_ret5 Try.func45 rfl rfl rfl rfl rfl rfl ⟨rfl, rfl⟩
  · refine aub ?_
    refine rn_ret5 Try.func45 rfl rfl rfl rfl rfl rfl ⟨?_, rfl⟩
    simp [hasV, needE, needF, needV, needB, needO, h]

theorem str_at {s : ByteArray} {j : Nat} (h : j < s.size) : s[j]? = some (s.data.toList[j]'(by simpa using h)) := by
  rw [getElem?_pos s j h]
  rfl

theorem all_take_succ {l : List UInt8} {i : Nat} (h : i < l.length) : (l.take (i + 1)).all letter = ((l.take i).all letter && letter l[i]) := by
  rw [List.take_succ_eq_append_getElem h, List.all_append]
  simp only [List.all_cons, List.all_nil, Bool.and_true]
theorem all_take_false {l : List UInt8} {i : Nat} (h : i < l.length) (hl : letter l[i] = false) : l.all letter = false := by
  rw [List.all_eq_false]
  exact ⟨l[i], List.getElem_mem h, by simp [hl]⟩

theorem name_ret (s : ByteArray) (w : World) : Ret Try.prog 39 [.string s] w fun v w' => v = .bool (nameOk s) ∧ w' = w := by
  refine ret_of 28 Try.func39 rfl rfl (by simp) ?_
  refine au ?_
  refine pl_val _ rfl rfl (val_strLen s (by decide +kernel) rfl rfl w) ?_
  by_cases h1 : s.size < 1
  · refine aub ?_
    refine rn_ret Try.func39 (.inl ⟨_, rfl, rfl⟩) ⟨?_, rfl⟩
    have : ¬ 1 ≤ s.size := by omega
    simp [nameOk, this]
  · refine aub ?_
    refine pl_val _ rfl rfl (val_strLen s (by decide +kernel) rfl rfl w) ?_
    by_cases h2 : s.size > 8
    · refine aub ?_
      refine rn_ret Try.func39 (.inl ⟨_, rfl, rfl⟩) ⟨?_, rfl⟩
      have : ¬ s.size ≤ 8 := by omega
      simp [nameOk, this]
    · refine aub ?_
      refine pl_val _ rfl rfl (val_strLen s (by decide +kernel) rfl rfl w) ?_
      refine au ?_
      have hsz : s.data.toList.length = s.size := by simp
      refine rn_ind (fun m σ w' => ∃ i : Nat, i ≤ s.size ∧ m = s.size - i ∧ σ = [(0, .string s), (13, .int .i64 (s.size : Nat)), (14, .int .i64 (i : Nat))] ∧ (s.data.toList.take i).all letter = true ∧ w' = w) s.size _ ?_ ⟨0, by omega, by omega, rfl, by simp, rfl⟩ ?_
      · exact ⟨rfl, rfl, rfl, trivial⟩
      rintro m σ w2 ih ⟨i, hi, rfl, rfl, hall, rfl⟩
      by_cases hlt : i < s.size
      · refine aub ?_
        have hat := str_at hlt
        have hs := all_take_succ (l := s.data.toList) (i := i) (by omega)
        have hf := all_take_false (l := s.data.toList) (i := i) (by omega)
        generalize s.data.toList[i]'(by omega) = c at *
        refine pl_val _ rfl rfl (val_strAt s i c (by decide +kernel) rfl rfl rfl rfl hat w2) ?_
        by_cases h3 : c.toNat < 97
        · refine aub ?_
          refine rn_ret Try.func39 (.inl ⟨_, rfl, rfl⟩) ⟨?_, rfl⟩
          rw [nameOk, hf (by simp [letter]; omega)]
          rfl
        · refine aub ?_
          refine pl_val _ rfl rfl (val_strAt s i c (by decide +kernel) rfl rfl rfl rfl hat w2) ?_
          by_cases h4 : c.toNat > 122
          · refine aub ?_
            refine rn_ret Try.func39 (.inl ⟨_, rfl, rfl⟩) ⟨?_, rfl⟩
            rw [nameOk, hf (by simp [letter]; omega)]
            rfl
          · refine aub ?_
            refine pl_num (((i + 1 : Nat) : Int)) rfl rfl rfl rfl rfl (by simp only [ariP]; omega) ?_
            refine au ?_
            refine rn_sub ?_ (ih (s.size - (i + 1)) [(0, .string s), (13, .int .i64 (s.size : Nat)), (14, .int .i64 ((i + 1 : Nat) : Int))] w2 (by omega) ⟨i + 1, by omega, rfl, rfl, ?_, rfl⟩)
            · exact ⟨rfl, rfl, rfl, trivial⟩
            · rw [hs, hall]
              simp [letter]
              omega
      · refine aub ?_
        refine rn_ret Try.func39 (.inl ⟨_, rfl, rfl⟩) ⟨?_, rfl⟩
        rw [List.take_of_length_le (by omega)] at hall
        have e1 : 1 ≤ s.size := by omega
        have e2 : s.size ≤ 8 := by omega
        simp only [nameOk, hall, e1, e2, decide_true, Bool.and_self]

theorem zeroE_eq (op v n : Int) (l : List ET) : zeroE (.mk op v n l) = (decide (op = 0) && decide (v = 0) && decide (n = 0) && decide (l.length = 0)) := by
  cases l with
  | nil => simp only [zeroE, List.isEmpty, List.length, decide_true, Bool.and_true]; rfl
  | cons x r => simp [zeroE]

theorem isZero_ret {F : Nat → Prop} {w : World} {cs : List Value} {t : ET} (h : ExprV F w cs t) : Ret Try.prog 55 [.agg cs.toArray] w fun v w' => v = .bool (zeroE t) ∧ Keep [] w w' := by
  obtain ⟨op, v, n, l⟩ := t
  obtain ⟨lv, rfl, hl⟩ := h.inv
  obtain ⟨a, cap, rfl⟩ := hl.form
  refine ret_of 22 Try.func55 rfl rfl (by simp) ?_
  refine au ?_
  refine pl_op rfl rfl (opTo_box [.int .i64 op, .int .i64 v, .int .i64 n, .slice a l.length cap] rfl rfl rfl ?_)
  have hk0 : Keep [] w (w.alloc (.cells [.int .i64 op, .int .i64 v, .int .i64 n, .slice a l.length cap].toArray 47)) := (Keep.refl _ _).alloc _
  have hb0 : Blk (w.alloc (.cells [.int .i64 op, .int .i64 v, .int .i64 n, .slice a l.length cap].toArray 47)) w.heap.size [.int .i64 op, .int .i64 v, .int .i64 n, .slice a l.length cap] 47 := Blk.new _ _ _
  generalize (w.alloc (.cells [.int .i64 op, .int .i64 v, .int .i64 n, .slice a l.length cap].toArray 47)) = w1 at *
  generalize w.heap.size = b at *
  rw [zeroE_eq]
  by_cases h1 : op = 0
  · by_cases h2 : v = 0
    · by_cases h3 : n = 0
      · by_cases h4 : l.length = 0
        · refine aub ?_
          exact rn_ret Try.func55 (.inl ⟨_, rfl, rfl⟩) ⟨by simp [h1, h2, h3, h4], hk0⟩
        · refine aub ?_
          exact rn_ret Try.func55 (.inl ⟨_, rfl, rfl⟩) ⟨by simp [h1, h2, h3, h4], hk0⟩
      · refine aub ?_
        exact rn_ret Try.func55 (.inl ⟨_, rfl, rfl⟩) ⟨by simp [h1, h2, h3], hk0⟩
    · refine aub ?_
      exact rn_ret Try.func55 (.inl ⟨_, rfl, rfl⟩) ⟨by simp [h1, h2], hk0⟩
  · refine aub ?_
    exact rn_ret Try.func55 (.inl ⟨_, rfl, rfl⟩) ⟨by simp [h1], hk0⟩
end E
end Go.Proofs.Ytcgigfnbjmlhhad

/- Mathematics of a check that is handed part by part: what one look tells, and that the looks one behind the other are what chkE, chkS tell. -/
namespace Go.Proofs.Ytcgigfnbjmlhhad
set_option maxRecDepth 20000
set_option maxHeartbeats 4000000
namespace E

def knownE (op : Int) : Bool := decide (0 ≤ partsOf op)
def fitsE (op n : Int) (len : Nat) : Bool := decide ((len : Int) = partsOf op) && (op == 1 || n == 0)
def namedE (op : Int) : Bool := op == 2 || op == 3
def knownS (op : Int) : Bool := decide (1 ≤ op) && decide (op ≤ 7)
def fitsS (op : Int) (e f : ET) (lb lo : Nat) : Bool := (((needE op || zeroE e) && (needF op || zeroE f)) && (needB op || (lb : Int) == 0)) && (needO op || (lo : Int) == 0)

/-- What a look tells of one part, with k parts met ahead of it. -/
def lookK (nv k : Nat) (deep : Int) (known fits named : Bool) (v : Int) : Int :=
  if deep > 12 then 4 else if k + 1 > 150 then 3 else if known = false then 2 else if fits = false then 5 else varK nv v named

theorem look_room {nv k : Nat} {deep : Int} {a b c : Bool} {v : Int} (h : lookK nv k deep a b c v = 0) : k + 1 ≤ 150 ∧ deep ≤ 12 := by
  unfold lookK at h
  split at h
  · cases h
  · split at h
    · cases h
    · omega

theorem ownE_look (nv : Nat) (op v n : Int) (len : Nat) : ownE nv op v n len = if knownE op = false then 2 else if fitsE op n len = false then 5 else varK nv v (namedE op) := by
  unfold ownE knownE fitsE namedE
  by_cases h1 : partsOf op < 0
  · have : ¬ 0 ≤ partsOf op := by omega
    simp [h1, this]
  · have h1' : 0 ≤ partsOf op := by omega
    simp only [h1, if_false, h1', decide_true, Bool.true_eq_false]
    by_cases h2 : (len : Int) = partsOf op
    · by_cases h3 : op = 1
      · simp [h2, h3]
      · by_cases h4 : n = 0
        · simp [h2, h3, h4]
        · simp [h2, h3, h4]
    · have h2' : partsOf op ≠ (len : Int) := fun h => h2 h.symm
      simp [h2, h2']
theorem ownS_look (nv : Nat) (op v : Int) (e f : ET) (lb lo : Nat) : ownS nv op v e f lb lo = if knownS op = false then 2 else if fitsS op e f lb lo = false then 5 else varK nv v (needV op) := by
  unfold ownS knownS fitsS
  by_cases h1 : op < 1 ∨ op > 7
  · rw [if_pos h1, if_pos]
    simp
    omega
  · have hk : (decide (1 ≤ op) && decide (op ≤ 7)) = true := by simp; omega
    rw [if_neg h1, hk]
    simp only [Bool.true_eq_false, if_false]
    have e1 : ((lb : Int) == 0) = !decide (0 < lb) := by rw [Bool.eq_iff_iff]; simp
    have e2 : ((lo : Int) == 0) = !decide (0 < lo) := by rw [Bool.eq_iff_iff]; simp
    rw [e1, e2]
    cases needE op <;> cases zeroE e <;> cases needF op <;> cases zeroE f <;> cases needB op <;> cases decide (0 < lb) <;> cases needO op <;> cases decide (0 < lo) <;> rfl

theorem chkE_look (nv deep k : Nat) (op v n : Int) (l : List ET) : chkE nv (.mk op v n l) deep k = if lookK nv k deep (knownE op) (fitsE op n l.length) (namedE op) v ≠ 0 then .error (lookK nv k deep (knownE op) (fitsE op n l.length) (namedE op) v) else chkEs nv l (deep + 1) (k + 1) := by
  simp only [chkE, headK, lookK]
  by_cases h1 : deep > 12
  · have h1' : (deep : Int) > 12 := by omega
    simp [h1, h1', nextK]
  · have h1' : ¬ (deep : Int) > 12 := by omega
    by_cases h2 : k + 1 > 150
    · simp only [h1, h1', h2, if_true, if_false, nextK]
      rfl
    · simp only [h1, h1', h2, if_false, nextK, ownE_look]
theorem chkS_look (nv deep k : Nat) (op v : Int) (e f : ET) (b o : List ST) : chkS nv (.mk op v e f b o) deep k = if lookK nv k deep (knownS op) (fitsS op e f b.length o.length) (needV op) v ≠ 0 then .error (lookK nv k deep (knownS op) (fitsS op e f b.length o.length) (needV op) v) else
    nextK (if needE op then chkE nv e (deep + 1) (k + 1) else .ok (k + 1)) fun k2 => nextK (if needF op then chkE nv f (deep + 1) k2 else .ok k2) fun k3 => nextK (chkSs nv b (deep + 1) k3) fun k4 => chkSs nv o (deep + 1) k4 := by
  simp only [chkS, headK, lookK]
  by_cases h1 : deep > 12
  · have h1' : (deep : Int) > 12 := by omega
    simp [h1, h1', nextK]
  · have h1' : ¬ (deep : Int) > 12 := by omega
    by_cases h2 : k + 1 > 150
    · simp only [h1, h1', h2, if_true, if_false, nextK]
      rfl
    · simp only [h1, h1', h2, if_false, nextK, ownS_look]

/-- The expressions of a statement. -/
def els (op : Int) (e f : ET) : List ET := (if needE op then [e] else []) ++ (if needF op then [f] else [])
theorem nextK_assoc (x : Except Int Nat) (f g : Nat → Except Int Nat) : nextK (nextK x f) g = nextK x fun k => nextK (f k) g := by cases x <;> rfl
theorem nextK_one (k : Nat) (f : Nat → Except Int Nat) : nextK (.ok k) f = f k := rfl
theorem nextK_id (x : Except Int Nat) : nextK x (fun k => .ok k) = x := by cases x <;> rfl
theorem chkEs_els (nv : Nat) (op : Int) (e f : ET) (d k : Nat) : chkEs nv (els op e f) d k = nextK (if needE op then chkE nv e d k else .ok k) fun k2 => if needF op then chkE nv f d k2 else .ok k2 := by
  unfold els
  cases needE op <;> cases needF op <;> simp [chkEs, nextK_one, nextK_id]
theorem chkS_parts (nv deep k : Nat) (op v : Int) (e f : ET) (b o : List ST) (h : lookK nv k deep (knownS op) (fitsS op e f b.length o.length) (needV op) v = 0) : chkS nv (.mk op v e f b o) deep k =
    nextK (chkEs nv (els op e f) (deep + 1) (k + 1)) fun k3 => nextK (chkSs nv b (deep + 1) k3) fun k4 => chkSs nv o (deep + 1) k4 := by
  rw [chkS_look, if_neg (by simp [h]), chkEs_els, nextK_assoc]

theorem chkEs_append (nv : Nat) : ∀ (a b : List ET) (d k : Nat), chkEs nv (a ++ b) d k = nextK (chkEs nv a d k) fun k1 => chkEs nv b d k1
  | [], b, d, k => by simp [chkEs, nextK]
  | t :: r, b, d, k => by
    simp only [List.cons_append, chkEs, nextK_assoc]
    congr 1
    funext k1
    exact chkEs_append nv r b d k1
theorem chkSs_append (nv : Nat) : ∀ (a b : List ST) (d k : Nat), chkSs nv (a ++ b) d k = nextK (chkSs nv a d k) fun k1 => chkSs nv b d k1
  | [], b, d, k => by simp [chkSs, nextK]
  | t :: r, b, d, k => by
    simp only [List.cons_append, chkSs, nextK_assoc]
    congr 1
    funext k1
    exact chkSs_append nv r b d k1
theorem chkEs_at {nv d k ki i : Nat} {l : List ET} {t : ET} (ht : l[i]? = some t) (h : chkEs nv (l.take i) d k = .ok ki) :
    chkEs nv (l.take (i + 1)) d k = chkE nv t d ki ∧ ∀ c, chkE nv t d ki = .error c → chkEs nv l d k = .error c := by
  obtain ⟨hlt, e⟩ := List.getElem?_eq_some_iff.1 ht
  refine ⟨?_, fun c hc => ?_⟩
  · rw [List.take_succ_eq_append_getElem hlt, chkEs_append, h, e]
    simp only [nextK, chkEs]
    exact nextK_id _
  · have : l = l.take i ++ t :: l.drop (i + 1) := by rw [← e, ← List.drop_eq_getElem_cons hlt, List.take_append_drop]
    rw [this, chkEs_append, h]
    simp only [nextK, chkEs, hc]
theorem chkSs_at {nv d k ki i : Nat} {l : List ST} {t : ST} (ht : l[i]? = some t) (h : chkSs nv (l.take i) d k = .ok ki) :
    chkSs nv (l.take (i + 1)) d k = chkS nv t d ki ∧ ∀ c, chkS nv t d ki = .error c → chkSs nv l d k = .error c := by
  obtain ⟨hlt, e⟩ := List.getElem?_eq_some_iff.1 ht
  refine ⟨?_, fun c hc => ?_⟩
  · rw [List.take_succ_eq_append_getElem hlt, chkSs_append, h, e]
    simp only [nextK, chkSs]
    exact nextK_id _
  · have : l = l.take i ++ t :: l.drop (i + 1) := by rw [← e, ← List.drop_eq_getElem_cons hlt, List.take_append_drop]
    rw [this, chkSs_append, h]
    simp only [nextK, chkSs, hc]

/-! ### No more parts than may be -/
def Lid (f : Nat → Except Int Nat) : Prop := ∀ k k', k ≤ 150 → f k = .ok k' → k' ≤ 150
mutual
theorem boundE (nv : Nat) : ∀ t d, Lid (chkE nv t d)
  | .mk op v n l, d => fun k k' hk h => by
    rw [chkE_look] at h
    split at h
    · cases h
    · rename_i hz
      have := (look_room (by simpa using hz)).1
      exact boundEs nv l (d + 1) (k + 1) k' this h
theorem boundEs (nv : Nat) : ∀ l d, Lid (chkEs nv l d)
  | [], d => fun k k' hk h => by
    simp only [chkEs] at h
    injection h with h
    omega
  | t :: r, d => fun k k' hk h => by
    simp only [chkEs] at h
    obtain ⟨k1, h1, h2⟩ := nextK_ok h
    exact boundEs nv r d k1 k' (boundE nv t d k k1 hk h1) h2
end
mutual
theorem boundS (nv : Nat) : ∀ t d, Lid (chkS nv t d)
  | .mk op v e f b o, d => fun k k' hk h => by
    by_cases hz : lookK nv k d (knownS op) (fitsS op e f b.length o.length) (needV op) v = 0
    · rw [chkS_parts _ _ _ _ _ _ _ _ _ hz] at h
      obtain ⟨k1, h1, h2⟩ := nextK_ok h
      obtain ⟨k2, h3, h4⟩ := nextK_ok h2
      have := (look_room hz).1
      exact boundSs nv o (d + 1) k2 k' (boundSs nv b (d + 1) k1 k2 (boundEs nv _ (d + 1) (k + 1) k1 this h1) h3) h4
    · rw [chkS_look, if_pos hz] at h
      cases h
theorem boundSs (nv : Nat) : ∀ l d, Lid (chkSs nv l d)
  | [], d => fun k k' hk h => by
    simp only [chkSs] at h
    injection h with h
    omega
  | t :: r, d => fun k k' hk h => by
    simp only [chkSs] at h
    obtain ⟨k1, h1, h2⟩ := nextK_ok h
    exact boundSs nv r d k1 k' (boundS nv t d k k1 hk h1) h2
end
end E
end Go.Proofs.Ytcgigfnbjmlhhad

/- Contracts of exprPart, stmtPart, exprsOf: what an expression, a statement is looked at for. -/
namespace Go.Proofs.Ytcgigfnbjmlhhad
set_option maxRecDepth 20000
set_option maxHeartbeats 4000000
namespace E
open Go.Proofs

def partL (deep : Int) (known fits named : Bool) (v : Int) : List Value := [.int .i64 deep, .bool known, .bool fits, .bool named, .int .i64 v]
def partZ : List Value := partL 0 false false false 0
theorem zero_part : ((Try.prog.info? 73).bind (·.zero)).map (·.cells) = some partZ.toArray := by kernel_rfl
theorem built_part (d : Int) (a b c : Bool) (v : Int) : Try.prog.built 73 [(0, .int .i64 d), (1, .bool a), (2, .bool b), (3, .bool c), (4, .int .i64 v)] = some (partL d a b c v).toArray := by kernel_rfl
theorem part_one (d : Int) (a b c : Bool) (v : Int) : ∀ u ∈ partL d a b c v, u.oneCell' = true := by
  intro u hu
  simp [partL] at hu
  rcases hu with rfl | rfl | rfl | rfl | rfl <;> rfl


theorem exprPart_ret {F : Nat → Prop} {w : World} {op v n : Int} {l : List ET} {lv : Value} (hl : ExprsV F w lv l) (deep : Int) :
    Ret Try.prog 56 [.agg #[.int .i64 op, .int .i64 v, .int .i64 n, lv], .int .i64 deep] w fun r w' => r = .agg (partL deep (knownE op) (fitsE op n l.length) (namedE op) v).toArray ∧ Keep [] w w' := by
  obtain ⟨a, cap, rfl⟩ := hl.form
  refine ret_of 38 Try.func56 rfl rfl (by simp) ?_
  refine au ?_
  refine pl_op rfl rfl (opTo_boxN [.int .i64 op, .int .i64 v, .int .i64 n, .slice a l.length cap] rfl rfl rfl ?_)
  intro w1 b hb hs1 hk1 hb1
  refine pl_op rfl rfl (opTo_allocN _ rfl zero_part ?_)
  intro w2 c hc hs2 hk2 hc2
  have hb2 := hk2.blk hb1 (by simp)
  refine au ?_
  refine rn_draw (fun w' => Keep [] w2 w' ∧ Blk w' b [.int .i64 op, .int .i64 v, .int .i64 n, .slice a l.length cap] 47) [33] hMix ?_
  have hS : Keep [] w2 w2.drew ∧ Blk w2.drew b [.int .i64 op, .int .i64 v, .int .i64 n, .slice a l.length cap] 47 := ⟨(Keep.refl _ _).drew, hb2.drew⟩
  have hkw : Keep [] w w2.drew := (hk1.tr hk2).drew
  have hc3 := hc2.drew
  have hsz : w.heap.size ≤ c := by have := hk1.size; omega
  generalize w2.drew = w3 at *
  have hlen : (l.length : Int) = partsOf op ∨ (l.length : Int) ≠ partsOf op := by omega
  have hp : op = 1 ∨ op = 2 ∨ (op ≠ 1 ∧ op ≠ 2) := by omega
  clear hk1 hk2 hb1 hc2 hb2
  rcases hp with hp | hp | hp <;> rcases hlen with hlen | hlen
  all_goals
    refine dp 0 ?_
    refine dp 1 ?_
    refine dp 2 ?_
    refine dp 4 ?_
    refine dp 5 ?_
    refine dp 6 ?_
    refine dp 7 ?_
    refine dp 8 ?_
    refine dp 9 ?_
    refine dp 22 ?_
    refine dp 23 ?_
    refine dp 24 ?_
    refine dp 30 ?_
    refine dp 31 ?_
    refine dr_op 3 rfl (by decide +kernel) rfl rfl (opTo_call rfl rfl rfl rfl (by decide +kernel) ((parts_ret op w3).mono ?_))
    rintro v4 w4 ⟨rfl, rfl⟩
    refine ⟨fun _ => hS, ?_⟩
    refine dr_any 4 _ rfl (by decide +kernel) rfl rfl (fun w => val_int _ _ _ _ rfl rfl rfl (by rfl) w) ?_
    refine dr_op 10 rfl (by decide +kernel) rfl rfl (opTo_call rfl rfl rfl rfl (by decide +kernel) ((parts_ret op _).mono ?_))
    rintro v5 w5 ⟨rfl, rfl⟩
    refine ⟨fun _ => hS, ?_⟩
    refine dp 11 ?_
    refine dp 12 ?_
    refine dp 13 ?_
    refine dp 14 ?_
    refine dp 15 ?_
    refine dp 16 ?_
    refine dp 17 ?_
    refine dp 18 ?_
    try (refine dr_any 19 _ rfl (by decide +kernel) rfl rfl (fun w => val_int _ _ _ _ rfl rfl rfl (by rfl) w) ?_)
    refine dp 19 ?_
    refine dp 20 ?_
    refine dp 21 ?_
    refine dp 25 ?_
    refine dp 26 ?_
    refine dp 27 ?_
    try (refine dr_any 28 _ rfl (by decide +kernel) rfl rfl (fun w => val_int _ _ _ _ rfl rfl rfl (by rfl) w) ?_)
    refine dp 28 ?_
    refine dp 29 ?_
    refine dr_any 32 _ rfl (by decide +kernel) rfl rfl (fun w => val_build _ rfl rfl (built_part _ _ _ _ _) w) ?_
    refine dr_op 33 rfl (by decide +kernel) rfl rfl (opTo_storeN _ rfl rfl rfl rfl (by kernel_rfl) hc3 (by simp [partL, partZ]) (part_one _ _ _ _ _) ?_)
    intro w6 hs6 hk6 hc6
    refine ⟨fun h => absurd h (by simp), ?_⟩
    refine dr_done (by decide +kernel) ?_
    rw [splice_whole (by rfl)] at hc6
    refine rn_ret Try.func56 (.inr (.inr (.inl ⟨_, _, _, rfl, rfl, blk_loadVar hT hc6 rfl⟩))) ⟨?_, hkw.trB hk6 hsz⟩
    congr 2
    first
      | (subst hp; simp [partL, knownE, fitsE, namedE, hlen]; done)
      | (simp [partL, knownE, fitsE, namedE, hp, hlen]; done)
end E
end Go.Proofs.Ytcgigfnbjmlhhad
