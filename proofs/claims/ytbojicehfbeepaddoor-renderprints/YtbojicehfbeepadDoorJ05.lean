/- Several texts in one: PrtN, PrtO, TokF, PrtQ, Rd, RdL, TreeRd, TreeV, Res2, Step. -/
import Derived.Test.YtbojicehfbeepadDoorJ04
import Derived.Test.YtbojicehfbeepadDoorJ03
import Derived.Test.YtbojicehfbeepadDoorJ02
import Derived.Deep.Slices
import Derived.OpenShut
/- Plain mathematics of printing, second part: a program's text and its tokens; they are read as the program that it was. -/
namespace Go.Proofs.YtbojicehfbeepadDoor
set_option maxRecDepth 20000
set_option maxHeartbeats 4000000
namespace E
open Go.Lib

def nameV (vs : List VarT) (v : Nat) : List UInt8 := (vs.getD v (⟨#[]⟩, 0)).1.data.toList
def opn : Tk := ([40], false, 0)
def cls : Tk := ([41], false, 0)
def wrd (w : List UInt8) : Tk := (w, false, 0)
def nmb (n : Int) : Tk := (itoa n, true, n)

mutual
def printE (vs : List VarT) : ET → List UInt8
  | .mk op v n l => 40 :: (wordT op.toNat ++ ((if op = 1 then 32 :: itoa n else []) ++ ((if op = 2 ∨ op = 3 then 32 :: nameV vs v.toNat else []) ++ (printEs vs l ++ [41]))))
def printEs (vs : List VarT) : List ET → List UInt8
  | [] => []
  | t :: r => 32 :: (printE vs t ++ printEs vs r)
end
mutual
def tokE (vs : List VarT) : ET → List Tk
  | .mk op v n l => opn :: wrd (wordT op.toNat) :: ((if op = 1 then [nmb n] else []) ++ ((if op = 2 ∨ op = 3 then [wrd (nameV vs v.toNat)] else []) ++ (tokEs vs l ++ [cls])))
def tokEs (vs : List VarT) : List ET → List Tk
  | [] => []
  | t :: r => tokE vs t ++ tokEs vs r
end
mutual
def printS (vs : List VarT) : ST → List UInt8
  | .mk op v e f b o => 40 :: (verbT op.toNat ++ ((if needV op then 32 :: nameV vs v.toNat else []) ++ ((if needE op then 32 :: printE vs e else []) ++ ((if needF op then 32 :: printE vs f else []) ++
      ((if needB op then 32 :: 40 :: (printSs vs false b ++ [41]) else []) ++ ((if needO op then 32 :: 40 :: (printSs vs false o ++ [41]) else []) ++ [41]))))))
def printSs (vs : List VarT) : Bool → List ST → List UInt8
  | _, [] => []
  | c, t :: r => (if c then [32] else []) ++ (printS vs t ++ printSs vs true r)
end
mutual
def tokS (vs : List VarT) : ST → List Tk
  | .mk op v e f b o => opn :: wrd (verbT op.toNat) :: ((if needV op then [wrd (nameV vs v.toNat)] else []) ++ ((if needE op then tokE vs e else []) ++ ((if needF op then tokE vs f else []) ++
      ((if needB op then opn :: (tokSs vs b ++ [cls]) else []) ++ ((if needO op then opn :: (tokSs vs o ++ [cls]) else []) ++ [cls])))))
def tokSs (vs : List VarT) : List ST → List Tk
  | [] => []
  | t :: r => tokS vs t ++ tokSs vs r
end
/-- Statements a line each. -/
def printB (vs : List VarT) : List ST → List UInt8
  | [] => []
  | t :: r => printS vs t ++ 10 :: printB vs r
def printV : List VarT → List UInt8
  | [] => []
  | x :: r => letT ++ 32 :: (x.1.data.toList ++ 32 :: (itoa x.2 ++ 10 :: printV r))
def tokV : List VarT → List Tk
  | [] => []
  | x :: r => wrd letT :: wrd x.1.data.toList :: nmb x.2 :: tokV r

/-! ### Numbers of 64 bits -/
def in64 (n : Int) : Prop := -9223372036854775808 ≤ n ∧ n ≤ 9223372036854775807
mutual
def longE : ET → Prop
  | .mk _ _ n l => in64 n ∧ longEs l
def longEs : List ET → Prop
  | [] => True
  | t :: r => longE t ∧ longEs r
end
mutual
def longSt : ST → Prop
  | .mk _ _ e f b o => longE e ∧ longE f ∧ longSs b ∧ longSs o
def longSs : List ST → Prop
  | [] => True
  | t :: r => longSt t ∧ longSs r
end

/-! ### What a check tells -/
theorem chkE_inv {nv : Nat} {op v n : Int} {l : List ET} {d k k' : Nat} (h : chkE nv (.mk op v n l) d k = .ok k') : d ≤ 12 ∧ ownE nv op v n l.length = 0 ∧ ∃ k1, chkEs nv l (d + 1) k1 = .ok k' := by
  simp only [chkE] at h
  obtain ⟨k1, h1, h2⟩ := nextK_ok h
  split at h2
  · cases h2
  · rename_i h3
    exact ⟨(headK_ok h1).2.1, by simpa using h3, k1, h2⟩
theorem chkEs_inv {nv : Nat} {t : ET} {r : List ET} {d k k' : Nat} (h : chkEs nv (t :: r) d k = .ok k') : (∃ k1, chkE nv t d k = .ok k1) ∧ ∃ k1, chkEs nv r d k1 = .ok k' := by
  simp only [chkEs] at h
  obtain ⟨k1, h1, h2⟩ := nextK_ok h
  exact ⟨⟨k1, h1⟩, k1, h2⟩
theorem chkS_inv {nv : Nat} {op v : Int} {e f : ET} {b o : List ST} {d k k' : Nat} (h : chkS nv (.mk op v e f b o) d k = .ok k') : d ≤ 12 ∧ ownS nv op v e f b.length o.length = 0 ∧
    (needE op = true → ∃ k1 k2, chkE nv e (d + 1) k1 = .ok k2) ∧ (needF op = true → ∃ k1 k2, chkE nv f (d + 1) k1 = .ok k2) ∧ (∃ k1 k2, chkSs nv b (d + 1) k1 = .ok k2) ∧ ∃ k1 k2, chkSs nv o (d + 1) k1 = .ok k2 := by
  simp only [chkS] at h
  obtain ⟨k1, h1, h2⟩ := nextK_ok h
  split at h2
  · cases h2
  · rename_i h3
    obtain ⟨k2, h4, h5⟩ := nextK_ok h2
    obtain ⟨k3, h6, h7⟩ := nextK_ok h5
    obtain ⟨k4, h8, h9⟩ := nextK_ok h7
    refine ⟨(headK_ok h1).2.1, by simpa using h3, fun he => ⟨k1, k2, ?_⟩, fun hf => ⟨k2, k3, ?_⟩, ⟨_, _, h8⟩, _, _, h9⟩
    · rw [if_pos he] at h4; exact h4
    · rw [if_pos hf] at h6; exact h6
theorem chkSs_inv {nv : Nat} {t : ST} {r : List ST} {d k k' : Nat} (h : chkSs nv (t :: r) d k = .ok k') : (∃ k1, chkS nv t d k = .ok k1) ∧ ∃ k1, chkSs nv r d k1 = .ok k' := by
  simp only [chkSs] at h
  obtain ⟨k1, h1, h2⟩ := nextK_ok h
  exact ⟨⟨k1, h1⟩, k1, h2⟩
theorem varK_in {nv : Nat} {v : Int} (h : varK nv v true = 0) : 0 ≤ v ∧ v.toNat < nv := by
  unfold varK at h
  rw [if_pos rfl] at h
  split at h
  · cases h
  · omega
theorem varK_no {nv : Nat} {v : Int} (h : varK nv v false = 0) : v = 0 := by
  unfold varK at h
  rw [if_neg (by decide)] at h
  split at h
  · cases h
  · omega
theorem ownE_inv {nv : Nat} {op v n : Int} {len : Nat} (h : ownE nv op v n len = 0) : 1 ≤ op ∧ op ≤ 8 ∧ partsOf op = (len : Int) ∧ (op ≠ 1 → n = 0) ∧ (op = 2 ∨ op = 3 → 0 ≤ v ∧ v.toNat < nv) ∧ (¬ (op = 2 ∨ op = 3) → v = 0) := by
  unfold ownE at h
  split at h
  · cases h
  · rename_i h1
    split at h
    · cases h
    · rename_i h2
      split at h
      · cases h
      · rename_i h3
        have hop : 1 ≤ op ∧ op ≤ 8 := by
          unfold partsOf at h1
          split at h1
          · omega
          · split at h1
            · omega
            · split at h1 <;> omega
        refine ⟨hop.1, hop.2, by simpa using h2, fun h4 => ?_, fun h4 => ?_, fun h4 => ?_⟩
        · by_cases hn : n = 0
          · exact hn
          · exact absurd ⟨h4, hn⟩ h3
        · have e : (op == 2 || op == 3) = true := by simpa using h4
          rw [e] at h
          exact varK_in h
        · have e : (op == 2 || op == 3) = false := by
            cases hb : (op == 2 || op == 3) with
            | false => rfl
            | true => exact absurd (by simpa using hb) h4
          rw [e] at h
          exact varK_no h
theorem zeroT_eq {t : ET} (h : zeroE t = true) : t = zeroT := by
  obtain ⟨op, v, n, l⟩ := t
  simp only [zeroE, Bool.and_eq_true, beq_iff_eq, List.isEmpty_iff] at h
  obtain ⟨⟨⟨rfl, rfl⟩, rfl⟩, rfl⟩ := h
  rfl
theorem ownS_inv {nv : Nat} {op v : Int} {e f : ET} {lb lo : Nat} (h : ownS nv op v e f lb lo = 0) : 1 ≤ op ∧ op ≤ 7 ∧ (needE op = false → e = zeroT) ∧ (needF op = false → f = zeroT) ∧ (needB op = false → lb = 0) ∧ (needO op = false → lo = 0) ∧
    (needV op = true → 0 ≤ v ∧ v.toNat < nv) ∧ (needV op = false → v = 0) := by
  unfold ownS at h
  split at h
  · cases h
  · rename_i h1
    split at h
    · cases h
    · rename_i h2
      split at h
      · cases h
      · rename_i h3
        simp only [Bool.or_eq_true, Bool.and_eq_true, Bool.not_eq_true', not_or, not_and, Bool.not_eq_false] at h2
        simp only [Bool.or_eq_true, Bool.and_eq_true, Bool.not_eq_true', not_or, not_and, decide_eq_true_eq] at h3
        refine ⟨by omega, by omega, fun h4 => zeroT_eq (h2.1 h4), fun h4 => zeroT_eq (h2.2 h4), fun h4 => by have := h3.1 h4; omega, fun h4 => by have := h3.2 h4; omega, fun h4 => ?_, fun h4 => ?_⟩
        · rw [h4] at h; exact varK_in h
        · rw [h4] at h; exact varK_no h

/-! ### Names -/
structure NamesOk (vs : List VarT) : Prop where
  name : ∀ v, v < vs.length → nameB (nameV vs v) = true
  find : ∀ v, v < vs.length → findV vs (nameV vs v) = some v
theorem nameB_let {l : List UInt8} (h : nameB l = true) : l.all letB = true ∧ 1 ≤ l.length := by
  simp only [nameB, Bool.and_eq_true, decide_eq_true_eq] at h
  exact ⟨h.1.1, h.1.2⟩
theorem nameOk_B {s : ByteArray} (h : nameOk s = true) : nameB s.data.toList = true := by
  unfold nameOk at h
  unfold nameB
  rw [size_toList]
  exact h
/-- No name of done comes again. -/
theorem chkV_names : ∀ {vs : List VarT} {done : List ByteArray} {n : Int}, chkV done n vs = 0 → (∀ x ∈ vs, nameB x.1.data.toList = true) ∧ (∀ x ∈ vs, ∀ s ∈ done, s.data.toList ≠ x.1.data.toList) ∧ vs.Pairwise (fun x y => x.1.data.toList ≠ y.1.data.toList)
  | [], _, _, _ => ⟨fun x hx => by simp at hx, fun x hx => by simp at hx, List.Pairwise.nil⟩
  | x :: r, done, n, h => by
    unfold chkV at h
    split at h
    · cases h
    · rename_i h1
      split at h
      · cases h
      · rename_i h2
        split at h
        · cases h
        · obtain ⟨e1, e2, e3⟩ := chkV_names h
          have hx : ∀ s ∈ done, s.data.toList ≠ x.1.data.toList := by
            intro s hs he
            apply h2
            rw [List.any_eq_true]
            refine ⟨s, hs, ?_⟩
            have : s.toList = x.1.toList := by
              rw [← str_data s, ← str_data x.1, str_toList, str_toList]; exact he
            rw [this]
            exact beq_self_eq_true _
          refine ⟨?_, ?_, List.Pairwise.cons ?_ e3⟩
          · intro y hy
            rcases List.mem_cons.1 hy with rfl | hy
            · exact nameOk_B (by simpa using h1)
            · exact e1 y hy
          · intro y hy s hs
            rcases List.mem_cons.1 hy with rfl | hy
            · exact hx s hs
            · exact e2 y hy s (List.mem_append_left _ hs)
          · intro y hy
            exact e2 y hy x.1 (by simp)
theorem findV_pair : ∀ {vs : List VarT}, vs.Pairwise (fun x y => x.1.data.toList ≠ y.1.data.toList) → ∀ v (hv : v < vs.length), findV vs (vs[v].1.data.toList) = some v
  | [], _, v, hv => by simp at hv
  | x :: r, h, 0, _ => by
    unfold findV
    simp
  | x :: r, h, v + 1, hv => by
    have hp := List.pairwise_cons.1 h
    have hv' : v < r.length := by simpa using hv
    unfold findV
    rw [if_neg (by simpa using hp.1 r[v] (List.getElem_mem hv'))]
    have := findV_pair hp.2 v hv'
    simp only [List.getElem_cons_succ, this, Option.map_some]
theorem namesOk {vs : List VarT} (h : chkV [] 0 vs = 0) : NamesOk vs := by
  obtain ⟨h1, _, h3⟩ := chkV_names h
  have e : ∀ v (hv : v < vs.length), nameV vs v = vs[v].1.data.toList := fun v hv => by
    unfold nameV
    rw [List.getD_eq_getElem?_getD, List.getElem?_eq_getElem hv]
    rfl
  refine ⟨fun v hv => ?_, fun v hv => ?_⟩
  · rw [e v hv]; exact h1 _ (List.getElem_mem hv)
  · rw [e v hv]; exact findV_pair h3 v hv

/-! ### The text's tokens -/
def Sc (T : List UInt8) (K : List Tk) : Prop := Scans T K ∧ brk T = true
theorem sc_par {c : UInt8} {T : List UInt8} {K : List Tk} (hc : parenB c = true) (h : Scans T K) : Sc (c :: T) (([c], false, 0) :: K) := by
  refine ⟨?_, by show (blankB c || parenB c) = true; rw [hc, Bool.or_true]⟩
  intro f pos rest hr hl
  have hb : blankB c = false := by
    simp only [parenB, Bool.or_eq_true, beq_iff_eq] at hc
    rcases hc with rfl | rfl <;> decide
  have hbit : bit c (T ++ rest) = .tok [c] false 0 := by
    unfold bit
    rw [hb, hc]
    rfl
  rw [List.cons_append] at hl ⊢
  obtain ⟨us, h1, h2⟩ := h f (pos + 1) rest hr (by simp only [List.length_cons] at hl; omega)
  refine ⟨⟨pos, [c], false, 0⟩ :: us, by simp only [List.map_cons, h1]; rfl, fun acc => ?_⟩
  rw [putT_tok acc hbit hl]
  show putT _ (toks f (pos + 1) (T ++ rest)) = _
  rw [h2, List.append_assoc]
  simp only [List.singleton_append, List.length_cons]
  congr 2
  omega
theorem sc_bl {c : UInt8} {T : List UInt8} {K : List Tk} (hc : blankB c = true) (h : Scans T K) : Sc (c :: T) K := by
  refine ⟨?_, by show (blankB c || parenB c) = true; rw [hc, Bool.true_or]⟩
  intro f pos rest hr hl
  rw [List.cons_append] at hl ⊢
  obtain ⟨us, h1, h2⟩ := h f (pos + 1) rest hr (by simp only [List.length_cons] at hl; omega)
  refine ⟨us, h1, fun acc => ?_⟩
  rw [toks_skip (bit_blank c _ hc) hl, h2, List.length_cons]
  congr 2
  omega
theorem sc_word {w T : List UInt8} {K : List Tk} (h1 : w.all letB = true) (h0 : 1 ≤ w.length) (h : Sc T K) : Scans (w ++ T) (wrd w :: K) := scans_app (scans_word h1 h0) h.1 (.inl h.2)
theorem sc_num {n : Int} {T : List UInt8} {K : List Tk} (hn : in64 n) (h : Sc T K) : Scans (itoa n ++ T) (nmb n :: K) := scans_app (scans_num hn.1 hn.2) h.1 (.inl h.2)
theorem sc_if {b : Prop} [Decidable b] {T X : List UInt8} {K Y : List Tk} (h : Sc T K) (hx : b → Sc (X ++ T) (Y ++ K)) : Sc ((if b then X else []) ++ T) ((if b then Y else []) ++ K) := by
  split
  · rename_i hb; exact hx hb
  · exact h
theorem word_ok {op : Int} (h1 : 1 ≤ op) (h2 : op ≤ 8) : (wordT op.toNat).all letB = true ∧ 1 ≤ (wordT op.toNat).length := by
  have : op = 1 ∨ op = 2 ∨ op = 3 ∨ op = 4 ∨ op = 5 ∨ op = 6 ∨ op = 7 ∨ op = 8 := by omega
  rcases this with rfl | rfl | rfl | rfl | rfl | rfl | rfl | rfl <;> decide
theorem verb_ok {op : Int} (h1 : 1 ≤ op) (h2 : op ≤ 7) : (verbT op.toNat).all letB = true ∧ 1 ≤ (verbT op.toNat).length := by
  have : op = 1 ∨ op = 2 ∨ op = 3 ∨ op = 4 ∨ op = 5 ∨ op = 6 ∨ op = 7 := by omega
  rcases this with rfl | rfl | rfl | rfl | rfl | rfl | rfl <;> decide

mutual
theorem sc_E {vs : List VarT} (hn : NamesOk vs) : ∀ (t : ET) (d k k' : Nat) (T : List UInt8) (K : List Tk), chkE vs.length t d k = .ok k' → longE t → Scans T K → Sc (printE vs t ++ T) (tokE vs t ++ K)
  | .mk op v n l, d, k, k', T, K, h, hl, hT => by
    obtain ⟨_, hown, k1, hs⟩ := chkE_inv h
    obtain ⟨h1, h2, h3, h4, h5, h6⟩ := ownE_inv hown
    have hw := word_ok h1 h2
    simp only [longE] at hl
    have e1 : printE vs (.mk op v n l) ++ T = 40 :: (wordT op.toNat ++ ((if op = 1 then 32 :: itoa n else []) ++ ((if op = 2 ∨ op = 3 then 32 :: nameV vs v.toNat else []) ++ (printEs vs l ++ (41 :: T))))) := by
      simp [printE, List.append_assoc]
    have e2 : tokE vs (.mk op v n l) ++ K = opn :: wrd (wordT op.toNat) :: ((if op = 1 then [nmb n] else []) ++ ((if op = 2 ∨ op = 3 then [wrd (nameV vs v.toNat)] else []) ++ (tokEs vs l ++ (cls :: K)))) := by
      simp [tokE, List.append_assoc]
    rw [e1, e2]
    have s1 : Sc (41 :: T) (cls :: K) := sc_par (by decide) hT
    have s2 := sc_Es hn l (d + 1) k1 k' _ _ hs hl.2 s1
    refine sc_par (by decide) (sc_word hw.1 hw.2 (sc_if (sc_if s2 fun hv => ?_) fun _ => ?_))
    · have := nameB_let (hn.name v.toNat (h5 hv).2)
      exact sc_bl (by decide) (sc_word this.1 this.2 s2)
    · exact sc_bl (by decide) (sc_num hl.1 (sc_if s2 fun hv => by
        have := nameB_let (hn.name v.toNat (h5 hv).2)
        exact sc_bl (by decide) (sc_word this.1 this.2 s2)))
theorem sc_Es {vs : List VarT} (hn : NamesOk vs) : ∀ (l : List ET) (d k k' : Nat) (T : List UInt8) (K : List Tk), chkEs vs.length l d k = .ok k' → longEs l → Sc T K → Sc (printEs vs l ++ T) (tokEs vs l ++ K)
  | [], _, _, _, _, _, _, _, hT => by
    simp only [printEs, tokEs, List.nil_append]
    exact hT
  | t :: r, d, k, k', T, K, h, hl, hT => by
    obtain ⟨⟨k1, h1⟩, k2, h2⟩ := chkEs_inv h
    simp only [longEs] at hl
    have s1 := sc_Es hn r d k2 k' T K h2 hl.2 hT
    have s2 := sc_E hn t d k k1 _ _ h1 hl.1 s1.1
    simp only [printEs, tokEs, List.cons_append, List.append_assoc]
    exact sc_bl (by decide) s2.1
end
mutual
theorem sc_S {vs : List VarT} (hn : NamesOk vs) : ∀ (t : ST) (d k k' : Nat) (T : List UInt8) (K : List Tk), chkS vs.length t d k = .ok k' → longSt t → Scans T K → Sc (printS vs t ++ T) (tokS vs t ++ K)
  | .mk op v e f b o, d, k, k', T, K, h, hl, hT => by
    obtain ⟨_, hown, he, hf, ⟨kb, kb', hb⟩, ko, ko', ho⟩ := chkS_inv h
    obtain ⟨h1, h2, h3, h4, h5, h6, h7, h8⟩ := ownS_inv hown
    have hw := verb_ok h1 h2
    simp only [longSt] at hl
    obtain ⟨le, lf, lb, lo⟩ := hl
    have e1 : printS vs (.mk op v e f b o) ++ T = 40 :: (verbT op.toNat ++ ((if needV op then 32 :: nameV vs v.toNat else []) ++ ((if needE op then 32 :: printE vs e else []) ++ ((if needF op then 32 :: printE vs f else []) ++
      ((if needB op then 32 :: 40 :: (printSs vs false b ++ [41]) else []) ++ ((if needO op then 32 :: 40 :: (printSs vs false o ++ [41]) else []) ++ (41 :: T))))))) := by
      simp [printS, List.append_assoc]
    have e2 : tokS vs (.mk op v e f b o) ++ K = opn :: wrd (verbT op.toNat) :: ((if needV op then [wrd (nameV vs v.toNat)] else []) ++ ((if needE op then tokE vs e else []) ++ ((if needF op then tokE vs f else []) ++
      ((if needB op then opn :: (tokSs vs b ++ [cls]) else []) ++ ((if needO op then opn :: (tokSs vs o ++ [cls]) else []) ++ (cls :: K)))))) := by
      simp [tokS, List.append_assoc]
    rw [e1, e2]
    have s1 : Sc (41 :: T) (cls :: K) := sc_par (by decide) hT
    have s2 := sc_if (b := needO op = true) s1 (X := 32 :: 40 :: (printSs vs false o ++ [41])) (Y := opn :: (tokSs vs o ++ [cls])) fun _ => by
      have := sc_Ss hn o (d + 1) ko ko' false _ _ ho lo (sc_par (c := 41) (by decide) s1.1)
      simp only [List.cons_append, List.append_assoc, List.nil_append]
      exact sc_bl (by decide) (sc_par (by decide) this.1).1
    have s3 := sc_if (b := needB op = true) s2 (X := 32 :: 40 :: (printSs vs false b ++ [41])) (Y := opn :: (tokSs vs b ++ [cls])) fun _ => by
      have := sc_Ss hn b (d + 1) kb kb' false _ _ hb lb (sc_par (c := 41) (by decide) s2.1)
      simp only [List.cons_append, List.append_assoc, List.nil_append] at this ⊢
      exact sc_bl (by decide) (sc_par (by decide) this.1).1
    have s4 := sc_if (b := needF op = true) s3 (X := 32 :: printE vs f) (Y := tokE vs f) fun hf' => by
      obtain ⟨a, b', hc⟩ := hf hf'
      exact sc_bl (by decide) (sc_E hn f (d + 1) a b' _ _ hc lf s3.1).1
    have s5 := sc_if (b := needE op = true) s4 (X := 32 :: printE vs e) (Y := tokE vs e) fun he' => by
      obtain ⟨a, b', hc⟩ := he he'
      exact sc_bl (by decide) (sc_E hn e (d + 1) a b' _ _ hc le s4.1).1
    have s6 := sc_if (b := needV op = true) s5 (X := 32 :: nameV vs v.toNat) (Y := [wrd (nameV vs v.toNat)]) fun hv => by
      have := nameB_let (hn.name v.toNat (h7 hv).2)
      exact sc_bl (by decide) (sc_word this.1 this.2 s5)
    exact sc_par (by decide) (sc_word hw.1 hw.2 s6)
theorem sc_Ss {vs : List VarT} (hn : NamesOk vs) : ∀ (l : List ST) (d k k' : Nat) (c : Bool) (T : List UInt8) (K : List Tk), chkSs vs.length l d k = .ok k' → longSs l → Sc T K → Sc (printSs vs c l ++ T) (tokSs vs l ++ K)
  | [], _, _, _, _, _, _, _, _, hT => by
    simp only [printSs, tokSs, List.nil_append]
    exact hT
  | t :: r, d, k, k', c, T, K, h, hl, hT => by
    obtain ⟨⟨k1, h1⟩, k2, h2⟩ := chkSs_inv h
    simp only [longSs] at hl
    have s1 := sc_Ss hn r d k2 k' true T K h2 hl.2 hT
    have s2 := sc_S hn t d k k1 _ _ h1 hl.1 s1.1
    simp only [printSs, tokSs, List.append_assoc]
    cases c with
    | true => exact sc_bl (by decide) s2.1
    | false => exact s2
end
theorem sc_B {vs : List VarT} (hn : NamesOk vs) : ∀ (l : List ST) (d k k' : Nat), chkSs vs.length l d k = .ok k' → longSs l → Sc (printB vs l) (tokSs vs l)
  | [], _, _, _, _, _ => ⟨scans_nil, rfl⟩
  | t :: r, d, k, k', h, hl => by
    obtain ⟨⟨k1, h1⟩, k2, h2⟩ := chkSs_inv h
    simp only [longSs] at hl
    have s1 := sc_B hn r d k2 k' h2 hl.2
    exact sc_S hn t d k k1 _ _ h1 hl.1 (sc_bl (c := 10) (by decide) s1.1).1
end E
end Go.Proofs.YtbojicehfbeepadDoor

/- Plain mathematics of printing, third part: the tokens of what was printed are read as what it was; statements behind statements. -/
namespace Go.Proofs.YtbojicehfbeepadDoor
set_option maxRecDepth 20000
set_option maxHeartbeats 4000000
namespace E
open Go.Lib

/-- From i on stand tokens as in K. -/
def At (ts : List Tok) (i : Nat) (K : List Tk) : Prop := ∀ (j : Nat) (x : Tk), K[j]? = some x → ∃ t, ts[i + j]? = some t ∧ tri t = x
def One (ts : List Tok) (i : Nat) (x : Tk) : Prop := ∃ t, ts[i]? = some t ∧ tri t = x
section
variable {ts : List Tok} {fin : Nat}
theorem At.cons {i : Nat} {x : Tk} {K : List Tk} (h : At ts i (x :: K)) : One ts i x ∧ At ts (i + 1) K := by
  refine ⟨h 0 x rfl, fun j y hy => ?_⟩
  have := h (j + 1) y (by simpa using hy)
  rwa [Nat.add_assoc, Nat.add_comm 1]
theorem At.app {i : Nat} {K K' : List Tk} (h : At ts i (K ++ K')) : At ts i K ∧ At ts (i + K.length) K' := by
  refine ⟨fun j y hy => h j y ?_, fun j y hy => ?_⟩
  · rw [List.getElem?_append_left (List.getElem?_eq_some_iff.1 hy).1]; exact hy
  · have := h (K.length + j) y (by rw [List.getElem?_append_right (Nat.le_add_right _ _), Nat.add_sub_cancel_left]; exact hy)
    rwa [Nat.add_assoc]
theorem At.len {i : Nat} {K : List Tk} (h : At ts i K) (hi : i ≤ ts.length) : i + K.length ≤ ts.length := by
  rcases Nat.eq_zero_or_pos K.length with h0 | h0
  · omega
  · obtain ⟨t, ht, _⟩ := h (K.length - 1) K[K.length - 1] (List.getElem?_eq_getElem (by omega))
    have := (List.getElem?_eq_some_iff.1 ht).1
    omega
theorem one_is {i : Nat} {w : List UInt8} (h : One ts i (wrd w)) (s : List UInt8) : isT ts i s = (w == s) := by
  obtain ⟨t, h1, h2⟩ := h
  unfold tri wrd at h2
  injection h2 with e1 e2
  injection e2 with e2 e3
  unfold isT
  rw [h1]
  simp only [e1, e2, Bool.not_false, Bool.true_and]
theorem one_must {i : Nat} {w : List UInt8} (h : One ts i (wrd w)) : mustP ts fin w i = .ok (i + 1) := by
  unfold mustP
  rw [one_is h, if_pos (beq_self_eq_true w)]
theorem one_num {i : Nat} {n : Int} (h : One ts i (nmb n)) : numP ts fin i = .ok (n, i + 1) := by
  obtain ⟨t, h1, h2⟩ := h
  unfold tri nmb at h2
  injection h2 with e1 e2
  injection e2 with e2 e3
  unfold numP
  rw [h1]
  simp only [e2, e3, if_true]
theorem one_name {i : Nat} {w : List UInt8} (h : One ts i (wrd w)) (hw : nameB w = true) : nameP ts fin i = .ok (w, i + 1) := by
  obtain ⟨t, h1, h2⟩ := h
  unfold tri wrd at h2
  injection h2 with e1 e2
  unfold nameP
  rw [h1]
  simp only [e1, hw, if_true]
theorem one_var {vs : List VarT} (hn : NamesOk vs) {i v : Nat} (hv : v < vs.length) (h : One ts i (wrd (nameV vs v))) : varP ts fin vs i = .ok (v, i + 1) := by
  unfold varP
  rw [one_name h (hn.name v hv)]
  show (match findV vs (nameV vs v) with | some k => _ | none => _) = _
  rw [hn.find v hv]
def pickF (g : Nat → Bool) : Nat → Nat → Option Nat
  | _, 0 => none
  | k, n + 1 => if g k then some k else pickF g (k + 1) n
theorem pickK_F {i : Nat} {of : Nat → List UInt8} {w : List UInt8} (h : One ts i (wrd w)) : ∀ (n k : Nat), pickK ts of i k n = pickF (fun j => w == of j) k n
  | 0, _ => rfl
  | n + 1, k => by
    unfold pickK pickF
    rw [one_is h, pickK_F h n]
theorem begin_word {i : Nat} {op : Int} (h1 : 1 ≤ op) (h2 : op ≤ 8) (ho : One ts i opn) (hw : One ts (i + 1) (wrd (wordT op.toNat))) : beginP ts fin wordT 8 i = .ok (op.toNat, i + 2) := by
  unfold beginP
  rw [one_must (w := [40]) ho]
  show (match pickK ts wordT (i + 1) 1 8 with | some k => _ | none => _) = _
  rw [pickK_F hw]
  have : op = 1 ∨ op = 2 ∨ op = 3 ∨ op = 4 ∨ op = 5 ∨ op = 6 ∨ op = 7 ∨ op = 8 := by omega
  rcases this with rfl | rfl | rfl | rfl | rfl | rfl | rfl | rfl <;> rfl
theorem begin_verb {i : Nat} {op : Int} (h1 : 1 ≤ op) (h2 : op ≤ 7) (ho : One ts i opn) (hw : One ts (i + 1) (wrd (verbT op.toNat))) : beginP ts fin verbT 7 i = .ok (op.toNat, i + 2) := by
  unfold beginP
  rw [one_must (w := [40]) ho]
  show (match pickK ts verbT (i + 1) 1 7 with | some k => _ | none => _) = _
  rw [pickK_F hw]
  have : op = 1 ∨ op = 2 ∨ op = 3 ∨ op = 4 ∨ op = 5 ∨ op = 6 ∨ op = 7 := by omega
  rcases this with rfl | rfl | rfl | rfl | rfl | rfl | rfl <;> rfl

mutual
theorem back_E {vs : List VarT} (hn : NamesOk vs) : ∀ (t : ET) (d k k' f i : Nat), chkE vs.length t d k = .ok k' → d + f = 13 → At ts i (tokE vs t) → exprP ts fin vs f i = .ok (t, i + (tokE vs t).length)
  | .mk op v n l, d, k, k', f, i, h, hdf, ha => by
    obtain ⟨hd, hown, k1, hs⟩ := chkE_inv h
    obtain ⟨h1, h2, h3, h4, h5, h6⟩ := ownE_inv hown
    obtain ⟨f, rfl⟩ : ∃ f', f = f' + 1 := ⟨f - 1, by omega⟩
    have hop : ((op.toNat : Nat) : Int) = op := by omega
    rw [tokE] at ha ⊢
    obtain ⟨a1, ha⟩ := ha.cons
    obtain ⟨a2, ha⟩ := ha.cons
    obtain ⟨a3, ha⟩ := ha.app
    obtain ⟨a4, ha⟩ := ha.app
    obtain ⟨a5, a6⟩ := ha.app
    have c1 : (op.toNat = 1) = (op = 1) := by rw [eq_iff_iff]; omega
    have c2 : (op.toNat = 2 ∨ op.toNat = 3) = (op = 2 ∨ op = 3) := by rw [eq_iff_iff]; omega
    unfold exprP
    rw [begin_word h1 h2 a1 a2]
    simp only [bnd, c1, c2]
    have e1 : (if op = 1 then numP ts fin (i + 2) else .ok (0, i + 2)) = .ok (n, i + 1 + 1 + (if op = 1 then [nmb n] else []).length) := by
      split
      · rename_i ho
        rw [if_pos ho] at a3
        exact one_num a3.cons.1
      · rename_i ho
        rw [h4 ho]
        rfl
    rw [e1]
    simp only
    have e2 : (if op = 2 ∨ op = 3 then varP ts fin vs (i + 1 + 1 + (if op = 1 then [nmb n] else []).length) else .ok (0, i + 1 + 1 + (if op = 1 then [nmb n] else []).length)) =
        .ok (v.toNat, i + 1 + 1 + (if op = 1 then [nmb n] else []).length + (if op = 2 ∨ op = 3 then [wrd (nameV vs v.toNat)] else []).length) := by
      split
      · rename_i ho
        rw [if_pos ho] at a4
        rw [one_var hn (h5 ho).2 a4.cons.1]
        rfl
      · rename_i ho
        rw [h6 ho]
        rfl
    rw [e2]
    simp only
    have hv : ((v.toNat : Nat) : Int) = v := by
      by_cases ho : op = 2 ∨ op = 3
      · have := (h5 ho).1; omega
      · rw [h6 ho]; rfl
    have hp : (partsOf ((op.toNat : Nat) : Int)).toNat = l.length := by rw [hop, h3]; rfl
    rw [hp, back_Es hn l (d + 1) k1 k' f _ hs (by omega) a5]
    simp only
    rw [one_must (w := [41]) a6.cons.1]
    simp only [hop, hv]
    congr 2
    simp only [List.length_cons, List.length_append, List.length_nil]
    omega
theorem back_Es {vs : List VarT} (hn : NamesOk vs) : ∀ (l : List ET) (d k k' f i : Nat), chkEs vs.length l d k = .ok k' → d + f = 13 → At ts i (tokEs vs l) → manyP (exprP ts fin vs f) l.length i = .ok (l, i + (tokEs vs l).length)
  | [], _, _, _, _, _, _, _, _ => rfl
  | t :: r, d, k, k', f, i, h, hdf, ha => by
    obtain ⟨⟨k1, h1⟩, k2, h2⟩ := chkEs_inv h
    rw [tokEs] at ha ⊢
    obtain ⟨a1, a2⟩ := ha.app
    rw [List.length_cons, manyP, back_E hn t d k k1 f i h1 hdf a1]
    simp only [bnd]
    rw [back_Es hn r d k2 k' f _ h2 hdf a2]
    simp only [List.length_append, Nat.add_assoc]
end

theorem isT_opn {j : Nat} (h : One ts j opn) : isT ts j [41] = false := by rw [one_is (w := [40]) h]; rfl
theorem tokS_head (vs : List VarT) (t : ST) : ∃ K, tokS vs t = opn :: K := by
  obtain ⟨op, v, e, f, b, o⟩ := t
  rw [tokS]
  exact ⟨_, rfl⟩
theorem tokSs_len (vs : List VarT) : ∀ (l : List ST), l.length ≤ (tokSs vs l).length
  | [] => Nat.zero_le _
  | t :: r => by
    have ih := tokSs_len vs r
    obtain ⟨K, hK⟩ := tokS_head vs t
    rw [tokSs, hK]
    simp only [List.length_cons, List.length_append]
    omega

mutual
theorem back_S {vs : List VarT} (hn : NamesOk vs) : ∀ (t : ST) (d k k' f i : Nat), chkS vs.length t d k = .ok k' → d + f = 13 → i ≤ ts.length → At ts i (tokS vs t) → stmtP ts fin vs f i = .ok (t, i + (tokS vs t).length)
  | .mk op v e g b o, d, k, k', f, i, h, hdf, hil, ha => by
    obtain ⟨hd, hown, he, hg, ⟨kb, kb', hb⟩, ko, ko', ho⟩ := chkS_inv h
    obtain ⟨h1, h2, h3, h4, h5, h6, h7, h8⟩ := ownS_inv hown
    obtain ⟨f, rfl⟩ : ∃ f', f = f' + 1 := ⟨f - 1, by omega⟩
    have hop : ((op.toNat : Nat) : Int) = op := by omega
    have hlen := ha.len hil
    rw [tokS] at ha hlen ⊢
    simp only [List.length_cons, List.length_append, List.length_nil] at hlen
    obtain ⟨a1, ha⟩ := ha.cons
    obtain ⟨a2, ha⟩ := ha.cons
    obtain ⟨a3, ha⟩ := ha.app
    obtain ⟨a4, ha⟩ := ha.app
    obtain ⟨a5, ha⟩ := ha.app
    obtain ⟨a6, ha⟩ := ha.app
    obtain ⟨a7, a8⟩ := ha.app
    unfold stmtP
    rw [begin_verb h1 h2 a1 a2]
    simp only [bnd, hop]
    generalize hi3 : i + 1 + 1 + (if needV op = true then [wrd (nameV vs v.toNat)] else []).length = i3 at *
    have e1 : (if needV op = true then varP ts fin vs (i + 2) else .ok (0, i + 2)) = .ok (v.toNat, i3) := by
      rw [← hi3]
      split
      · rename_i hq
        rw [if_pos hq] at a3
        rw [show i + 2 = i + 1 + 1 from rfl, one_var hn (h7 hq).2 a3.cons.1]
        rfl
      · rename_i hq
        rw [h8 (by simpa using hq)]
        rfl
    rw [e1]
    simp only
    generalize hi4 : i3 + (if needE op = true then tokE vs e else []).length = i4 at *
    have e2 : (if needE op = true then exprP ts fin vs f i3 else .ok (zeroT, i3)) = .ok (e, i4) := by
      rw [← hi4]
      split
      · rename_i hq
        rw [if_pos hq] at a4
        obtain ⟨x, y, hc⟩ := he hq
        exact back_E hn e (d + 1) x y f i3 hc (by omega) a4
      · rename_i hq
        rw [h3 (by simpa using hq)]
        rfl
    rw [e2]
    simp only
    generalize hi5 : i4 + (if needF op = true then tokE vs g else []).length = i5 at *
    have e3 : (if needF op = true then exprP ts fin vs f i4 else .ok (zeroT, i4)) = .ok (g, i5) := by
      rw [← hi5]
      split
      · rename_i hq
        rw [if_pos hq] at a5
        obtain ⟨x, y, hc⟩ := hg hq
        exact back_E hn g (d + 1) x y f i4 hc (by omega) a5
      · rename_i hq
        rw [h4 (by simpa using hq)]
        rfl
    rw [e3]
    simp only
    generalize hi6 : i5 + (if needB op = true then opn :: (tokSs vs b ++ [cls]) else []).length = i6 at *
    have e4 : (if needB op = true then listP ts fin (stmtP ts fin vs f) i5 else .ok ([], i5)) = .ok (b, i6) := by
      rw [← hi6]
      split
      · rename_i hq
        rw [if_pos hq] at a6
        exact back_L hn b (d + 1) kb kb' f i5 hb (by omega) a6
      · rename_i hq
        have : b = [] := List.eq_nil_of_length_eq_zero (h5 (by simpa using hq))
        rw [this]
        rfl
    rw [e4]
    simp only
    generalize hi7 : i6 + (if needO op = true then opn :: (tokSs vs o ++ [cls]) else []).length = i7 at *
    have e5 : (if needO op = true then listP ts fin (stmtP ts fin vs f) i6 else .ok ([], i6)) = .ok (o, i7) := by
      rw [← hi7]
      split
      · rename_i hq
        rw [if_pos hq] at a7
        exact back_L hn o (d + 1) ko ko' f i6 ho (by omega) a7
      · rename_i hq
        have : o = [] := List.eq_nil_of_length_eq_zero (h6 (by simpa using hq))
        rw [this]
        rfl
    rw [e5]
    simp only
    rw [one_must (w := [41]) a8.cons.1]
    have hv : ((v.toNat : Nat) : Int) = v := by
      cases hq : needV op with
      | true => have := (h7 hq).1; omega
      | false => rw [h8 hq]; rfl
    simp only [hv]
    congr 2
    simp only [List.length_cons, List.length_append, List.length_nil]
    omega
theorem back_L {vs : List VarT} (hn : NamesOk vs) : ∀ (l : List ST) (d k k' f i : Nat), chkSs vs.length l d k = .ok k' → d + f = 13 → At ts i (opn :: (tokSs vs l ++ [cls])) → listP ts fin (stmtP ts fin vs f) i = .ok (l, i + (opn :: (tokSs vs l ++ [cls])).length)
  | l, d, k, k', f, i, h, hdf, ha => by
    obtain ⟨a1, ha⟩ := ha.cons
    obtain ⟨a2, a3⟩ := ha.app
    obtain ⟨t3, h3, _⟩ := a3.cons.1
    have hlt := (List.getElem?_eq_some_iff.1 h3).1
    unfold listP
    rw [one_must (w := [40]) a1]
    simp only [bnd]
    have hl := tokSs_len vs l
    rw [back_Ss hn l d k k' f (i + 1) (fun j => isT ts j [41]) _ h hdf (by omega) a2 (fun j hj => isT_opn hj) (by rw [one_is (w := [41]) a3.cons.1]; rfl) (by omega)]
    simp only
    rw [one_must (w := [41]) a3.cons.1]
    simp only [List.length_cons, List.length_append, List.length_nil]
    congr 2
    omega
theorem back_Ss {vs : List VarT} (hn : NamesOk vs) : ∀ (l : List ST) (d k k' f i : Nat) (st : Nat → Bool) (m : Nat), chkSs vs.length l d k = .ok k' → d + f = 13 → i ≤ ts.length → At ts i (tokSs vs l) → (∀ j, One ts j opn → st j = false) → st (i + (tokSs vs l).length) = true → l.length < m →
    untilP st (stmtP ts fin vs f) m i = .ok (l, i + (tokSs vs l).length)
  | [], _, _, _, _, i, st, m, _, _, _, _, _, hst, hm => by
    obtain ⟨m, rfl⟩ : ∃ m', m = m' + 1 := ⟨m - 1, by simp at hm; omega⟩
    unfold untilP
    rw [if_pos (by simpa [tokSs] using hst)]
    rfl
  | t :: r, d, k, k', f, i, st, m, h, hdf, hil, ha, hop, hst, hm => by
    obtain ⟨⟨k1, h1⟩, k2, h2⟩ := chkSs_inv h
    simp only [List.length_cons] at hm
    obtain ⟨m, rfl⟩ : ∃ m', m = m' + 1 := ⟨m - 1, by omega⟩
    have hle := ha.len hil
    rw [tokSs] at ha hst hle ⊢
    simp only [List.length_append] at hle
    obtain ⟨a1, a2⟩ := ha.app
    obtain ⟨K, hK⟩ := tokS_head vs t
    have a0 : One ts i opn := by rw [hK] at a1; exact a1.cons.1
    unfold untilP
    rw [hop i a0, if_neg (by decide), back_S hn t d k k1 f i h1 hdf hil a1]
    simp only [bnd]
    rw [back_Ss hn r d k2 k' f _ st m h2 hdf (by omega) a2 hop (by rw [List.length_append] at hst; rw [Nat.add_assoc]; exact hst) (by omega)]
    simp only [List.length_append, Nat.add_assoc]
end
end
end E
end Go.Proofs.YtbojicehfbeepadDoor

/- Plain mathematics of tokens: what a text's scan tells. -/
namespace Go.Proofs.YtbojicehfbeepadDoor
set_option maxRecDepth 20000
set_option maxHeartbeats 4000000
namespace E

/-- What Scan tells: a fault, or none, and the tokens. -/
def faultOf (l : List UInt8) : Int × Int :=
  if 6000 < l.length then (3, 6000) else match scanOf l with
    | .error e => (7, ((e : Nat) : Int))
    | .ok _ => (0, 0)
def toksOf (l : List UInt8) : List Tok :=
  if 6000 < l.length then [] else match scanOf l with
    | .error _ => []
    | .ok ts => ts

/-- The bytes from a place on, where one is there. -/
theorem drop_at {l : List UInt8} {i : Nat} (h : i < l.length) : ∃ c r, l.drop i = c :: r ∧ l[i]? = some c ∧ l.drop (i + 1) = r := by
  refine ⟨l[i], l.drop (i + 1), List.drop_eq_getElem_cons h, List.getElem?_eq_getElem h, rfl⟩

theorem bit_len {c : UInt8} {r t : List UInt8} {b : Bool} {v : Int} (h : bit c r = .tok t b v) : 1 ≤ t.length ∧ t.length ≤ (c :: r).length := by
  obtain ⟨u, q, rfl, rfl, _⟩ := bit_tok h
  simp only [List.length_cons, List.length_append]
  omega

theorem bit_not_skip {c : UInt8} {r : List UInt8} (hbl : blankB c = false) : bit c r ≠ .skip := by
  intro hbit
  unfold bit at hbit
  rw [hbl] at hbit
  split at hbit
  · rename_i h; cases h
  · split at hbit
    · cases hbit
    · split at hbit
      · cases hbit
      · split at hbit
        · split at hbit <;> cases hbit
        · cases hbit
theorem faultOf_error {l : List UInt8} {e : Nat} (hn : ¬ 6000 < l.length) (h : scanOf l = .error e) : faultOf l = (7, ((e : Nat) : Int)) ∧ toksOf l = [] := by
  unfold faultOf toksOf
  rw [if_neg hn, if_neg hn, h]
  exact ⟨rfl, rfl⟩
theorem faultOf_ok {l : List UInt8} {ts : List Tok} (hn : ¬ 6000 < l.length) (h : scanOf l = .ok ts) : faultOf l = (0, 0) ∧ toksOf l = ts := by
  unfold faultOf toksOf
  rw [if_neg hn, if_neg hn, h]
  exact ⟨rfl, rfl⟩

theorem textLen_ge : ∀ (ts : List Tok), fine ts → ts.length ≤ textLen ts
  | [], _ => Nat.le_refl _
  | t :: r, h => by
    have ih := textLen_ge r h.2
    obtain ⟨c, u, r0, h1, _⟩ := h.1
    simp only [textLen, List.length_cons, h1]
    omega
theorem toksOf_len (l : List UInt8) : (toksOf l).length ≤ 1000000 := by
  unfold toksOf
  split
  · exact Nat.zero_le _
  · rename_i hn
    split
    · exact Nat.zero_le _
    · rename_i ts h
      have ⟨h1, h2⟩ := toks_fine _ _ _ _ h
      have := textLen_ge ts h1
      omega

theorem fault_cases (l : List UInt8) (hl : l.length ≤ 6000) : (∃ e : Nat, faultOf l = (7, ((e : Nat) : Int)) ∧ toksOf l = []) ∨ (∃ ts, scanOf l = .ok ts ∧ faultOf l = (0, 0) ∧ toksOf l = ts) := by
  cases h : scanOf l with
  | error e => exact .inl ⟨e, faultOf_error (by omega) h⟩
  | ok ts => exact .inr ⟨ts, rfl, faultOf_ok (by omega) h⟩

end E
end Go.Proofs.YtbojicehfbeepadDoor

/- Plain mathematics of reading and printing: statements behind statements; numbers that are read are of 64 bits; what a text is. -/
namespace Go.Proofs.YtbojicehfbeepadDoor
set_option maxRecDepth 20000
set_option maxHeartbeats 4000000
namespace E
open Go.Lib

/-! ### Numbers that are read -/
def longTs (ts : List Tok) : Prop := ∀ t ∈ ts, in64 t.val
theorem bit_long {c : UInt8} {r t : List UInt8} {b : Bool} {v : Int} (h : bit c r = .tok t b v) : in64 v := by
  unfold bit at h
  split at h
  · cases h
  split at h
  · injection h with _ _ h; subst h; exact ⟨by decide, by decide⟩
  split at h
  · injection h with _ _ h; subst h; exact ⟨by decide, by decide⟩
  split at h
  · split at h
    · rename_i w hw
      injection h with _ _ h
      subst h
      have := longOf_some hw
      exact ⟨this.2.1, this.2.2.1⟩
    · cases h
  · cases h
theorem fine_long : ∀ {ts : List Tok}, fine ts → longTs ts
  | [], _ => fun t ht => by simp at ht
  | x :: r, h => by
    obtain ⟨⟨c, u, r0, _, h2⟩, h3⟩ := h
    intro t ht
    rcases List.mem_cons.1 ht with rfl | ht
    · exact bit_long h2
    · exact fine_long h3 t ht
theorem scan_long {l : List UInt8} {ts : List Tok} (h : scanOf l = .ok ts) : longTs ts := fine_long (toks_fine _ _ _ _ h).1

section
variable {ts : List Tok} {fin : Nat}
theorem numP_long (hl : longTs ts) {i : Nat} {r : Int × Nat} (h : numP ts fin i = .ok r) : in64 r.1 := by
  unfold numP at h
  split at h
  · rename_i t ht
    split at h
    · injection h with h; subst h; exact hl t (List.mem_of_getElem? ht)
    · cases h
  · cases h
theorem manyP_long {one : Nat → Except Flt (ET × Nat)} (h1 : ∀ i r, one i = .ok r → longE r.1) : ∀ (m i : Nat) (r : List ET × Nat), manyP one m i = .ok r → longEs r.1
  | 0, i, r, h => by injection h with h; subst h; simp only [longEs]
  | m + 1, i, r, h => by
    obtain ⟨⟨t, j⟩, ha, hb⟩ := bnd_ok h
    obtain ⟨⟨r', k⟩, hc, hd⟩ := bnd_ok hb
    injection hd with hd
    subst hd
    simp only [longEs]
    exact ⟨h1 _ _ ha, manyP_long h1 m j _ hc⟩
theorem untilP_long {st : Nat → Bool} {one : Nat → Except Flt (ST × Nat)} (h1 : ∀ i r, one i = .ok r → longSt r.1) : ∀ (m i : Nat) (r : List ST × Nat), untilP st one m i = .ok r → longSs r.1
  | 0, _, _, h => by cases h
  | m + 1, i, r, h => by
    unfold untilP at h
    split at h
    · injection h with h; subst h; simp only [longSs]
    · obtain ⟨⟨t, j⟩, ha, hb⟩ := bnd_ok h
      obtain ⟨⟨r', k⟩, hc, hd⟩ := bnd_ok hb
      injection hd with hd
      subst hd
      simp only [longSs]
      exact ⟨h1 _ _ ha, untilP_long h1 m j _ hc⟩
theorem exprP_long (hl : longTs ts) (vs : List VarT) : ∀ (f i : Nat) (r : ET × Nat), exprP ts fin vs f i = .ok r → longE r.1
  | 0, _, _, h => by cases h
  | f + 1, i, r, h => by
    unfold exprP at h
    obtain ⟨⟨k, i1⟩, h1, h⟩ := bnd_ok h
    obtain ⟨⟨n, i2⟩, h2, h⟩ := bnd_ok h
    obtain ⟨⟨v, i3⟩, h3, h⟩ := bnd_ok h
    obtain ⟨⟨l, i4⟩, h4, h⟩ := bnd_ok h
    obtain ⟨i5, h5, h⟩ := bnd_ok h
    injection h with h
    subst h
    simp only [longE]
    refine ⟨?_, manyP_long (exprP_long hl vs f) _ _ _ h4⟩
    split at h2
    · exact numP_long hl h2
    · injection h2 with h2; injection h2 with h2 _; subst h2; exact ⟨by decide, by decide⟩
theorem zeroT_long : longE zeroT := by
  simp only [zeroT, longE, longEs, and_true]
  exact ⟨by decide, by decide⟩
theorem listP_long {one : Nat → Except Flt (ST × Nat)} (h1 : ∀ i r, one i = .ok r → longSt r.1) {i : Nat} {r : List ST × Nat} (h : listP ts fin one i = .ok r) : longSs r.1 := by
  unfold listP at h
  obtain ⟨j, _, h⟩ := bnd_ok h
  obtain ⟨⟨l, k⟩, h2, h⟩ := bnd_ok h
  obtain ⟨m, _, h⟩ := bnd_ok h
  injection h with h
  subst h
  exact untilP_long h1 _ _ (l, k) h2
theorem stmtP_long (hl : longTs ts) (vs : List VarT) : ∀ (f i : Nat) (r : ST × Nat), stmtP ts fin vs f i = .ok r → longSt r.1
  | 0, _, _, h => by cases h
  | f + 1, i, r, h => by
    unfold stmtP at h
    obtain ⟨⟨k, i1⟩, h1, h⟩ := bnd_ok h
    obtain ⟨⟨v, i2⟩, h2, h⟩ := bnd_ok h
    obtain ⟨⟨e, i3⟩, h3, h⟩ := bnd_ok h
    obtain ⟨⟨g, i4⟩, h4, h⟩ := bnd_ok h
    obtain ⟨⟨b, i5⟩, h5, h⟩ := bnd_ok h
    obtain ⟨⟨o, i6⟩, h6, h⟩ := bnd_ok h
    obtain ⟨i7, h7, h⟩ := bnd_ok h
    injection h with h
    subst h
    simp only [longSt]
    refine ⟨?_, ?_, ?_, ?_⟩
    · split at h3
      · exact exprP_long hl vs f _ _ h3
      · injection h3 with h3; injection h3 with h3 _; subst h3; exact zeroT_long
    · split at h4
      · exact exprP_long hl vs f _ _ h4
      · injection h4 with h4; injection h4 with h4 _; subst h4; exact zeroT_long
    · split at h5
      · exact listP_long (stmtP_long hl vs f) h5
      · injection h5 with h5; injection h5 with h5 _; subst h5; simp only [longSs]
    · split at h6
      · exact listP_long (stmtP_long hl vs f) h6
      · injection h6 with h6; injection h6 with h6 _; subst h6; simp only [longSs]
theorem readP_long (hl : longTs ts) {vs : List VarT} {b : List ST} (h : readP ts fin = .ok (vs, b)) : longSs b := by
  unfold readP at h
  obtain ⟨⟨vs', i⟩, _, h⟩ := bnd_ok h
  obtain ⟨⟨b', k⟩, h2, h⟩ := bnd_ok h
  injection h with h
  injection h with h3 h4
  subst h3
  subst h4
  exact untilP_long (stmtP_long hl vs' 13) _ _ _ h2
end

/-! ### Statements behind statements -/
theorem untilP_more {α : Type} {st : Nat → Bool} {f : Nat → Except Flt (α × Nat)} {c d i : Nat} (h : c ≤ d) : lesX (untilP st f c i) (untilP st f d i) :=
  untilP_ext (fun _ _ _ => rfl) (fun _ => les_refl _) (fun _ h => h) c d i h
theorem until_join {α : Type} {L : Nat} {st st' : Nat → Bool} {f g : Nat → Except Flt (α × Nat)} (hs : ∀ i, st i = false → st' i = false) (hf : ∀ i, lesX (f i) (g i)) {c : List α} {e m' : Nat} :
    ∀ (m M i : Nat) (b : List α) (k : Nat), i ≤ L → untilP st f m i = .ok (b, k) → untilP st' g m' k = .ok (c, e) → m + m' ≤ M → untilP st' g M i = .ok (b ++ c, e)
  | 0, _, _, _, _, _, h, _, _ => by cases h
  | m + 1, 0, _, _, _, _, _, _, hM => by omega
  | m + 1, M + 1, i, b, k, hi, h, h2, hM => by
    unfold untilP at h
    split at h
    · injection h with h
      injection h with h3 h4
      subst h3
      subst h4
      exact untilP_more (by omega) _ h2
    · rename_i hst
      obtain ⟨⟨t, j⟩, ha, hb⟩ := bnd_ok h
      obtain ⟨⟨r', k'⟩, hc, hd⟩ := bnd_ok hb
      injection hd with hd
      injection hd with h3 h4
      subst h3
      subst h4
      have ih := until_join (L := max L j) hs hf m M j r' k' (by omega) hc h2 (by omega)
      unfold untilP
      rw [hs i (by simpa using hst), if_neg (by decide), hf i _ ha]
      simp only [bnd]
      rw [ih]
      rfl
theorem until_upto {α : Type} {L : Nat} {st st' : Nat → Bool} {f g : Nat → Except Flt (α × Nat)} (h0 : ∀ i r, f i = .ok r → i < r.2 ∧ r.2 ≤ L) (hs : ∀ i, i < L → st' i = st i) (hL : st' L = true) (hf : ∀ i, lesX (f i) (g i)) :
    ∀ (m M i : Nat) (r : List α × Nat), i ≤ L → untilP st f m i = .ok r → m ≤ M → untilP st' g M i = .ok r
  | 0, _, _, _, _, h, _ => by cases h
  | m + 1, 0, _, _, _, _, hM => by omega
  | m + 1, M + 1, i, r, hi, h, hM => by
    unfold untilP at h ⊢
    split at h
    · rename_i hst
      have : st' i = true := by
        rcases Nat.lt_or_ge i L with h' | h'
        · rw [hs i h', hst]
        · have : i = L := by omega
          rw [this]; exact hL
      rw [if_pos this]
      exact h
    · rename_i hst
      obtain ⟨⟨t, j⟩, ha, hb⟩ := bnd_ok h
      have h1 := h0 _ _ ha
      dsimp only at h1
      rw [hs i (by omega), if_neg hst, hf i _ ha]
      obtain ⟨⟨r', k'⟩, hc, hd⟩ := bnd_ok hb
      simp only [bnd]
      rw [until_upto h0 hs hL hf m M j _ h1.2 hc (by omega)]
      exact hd

theorem at_tail {ts us : List Tok} {K : List Tk} (h : us.map tri = K) : At (ts ++ us) ts.length K := by
  intro j x hx
  rw [← h, List.getElem?_map, Option.map_eq_some_iff] at hx
  obtain ⟨t, ht, rfl⟩ := hx
  exact ⟨t, by rw [List.getElem?_append_right (Nat.le_add_right _ _), Nat.add_sub_cancel_left]; exact ht, rfl⟩

theorem read_join {ts us : List Tok} {fin fin' : Nat} {vs : List VarT} {b c : List ST} (h : readP ts fin = .ok (vs, b)) (hn : NamesOk vs) {k' : Nat} (hc : chkSs vs.length c 0 0 = .ok k') (hus : us.map tri = tokSs vs c) :
    readP (ts ++ us) fin' = .ok (vs, b ++ c) := by
  have hext : Ext ts (ts ++ us) := ⟨us, rfl⟩
  have hat := at_tail (ts := ts) hus
  have hul : us.length = (tokSs vs c).length := by rw [← hus, List.length_map]
  unfold readP at h ⊢
  obtain ⟨⟨vs', i0⟩, h1, h⟩ := bnd_ok h
  obtain ⟨⟨b', e0⟩, h2, h⟩ := bnd_ok h
  injection h with h
  injection h with h3 h4
  subst h3
  subst h4
  have hlet : letsP (ts ++ us) fin' 0 = .ok (vs', i0) := by
    unfold letsP at h1 ⊢
    refine until_upto (L := ts.length) (fun i r hr => letP_ok hr) (fun i hi => by rw [isT_ext hext hi]) ?_ (letP_ext hext) _ _ 0 _ (Nat.zero_le _) h1 (by rw [List.length_append]; omega)
    cases c with
    | nil =>
      rw [tokSs] at hus
      have : us = [] := List.eq_nil_of_length_eq_zero (by rw [hul]; rfl)
      rw [this, List.append_nil]
      unfold isT
      rw [List.getElem?_eq_none (Nat.le_refl _)]
      rfl
    | cons t r =>
      obtain ⟨K, hK⟩ := tokS_head vs' t
      rw [tokSs, hK] at hat
      rw [one_is (w := [40]) hat.cons.1]
      rfl
  rw [hlet]
  simp only [bnd]
  have h0 := untilP_ok (ts := ts) (fun i r hr => letP_ok hr) _ _ _ (Nat.zero_le _) (show untilP _ _ _ 0 = _ from h1)
  have hi0 : i0 ≤ ts.length := h0.2.1
  have he := untilP_ok (ts := ts) (stmtP_ok vs' 13) _ _ _ hi0 (show untilP _ _ _ i0 = _ from h2)
  have he0 : e0 = ts.length := by
    have := he.2.2
    simp only [decide_eq_true_eq] at this
    have := he.2.1
    dsimp only at *
    omega
  subst he0
  have hback := back_Ss (ts := ts ++ us) (fin := fin') hn c 0 0 k' 13 ts.length (fun j => decide ((ts ++ us).length ≤ j)) (c.length + 1) hc rfl (by rw [List.length_append]; omega) hat
    (fun j ⟨t, ht, _⟩ => by
      have := (List.getElem?_eq_some_iff.1 ht).1
      simp only [decide_eq_false_iff_not]
      omega) (by rw [List.length_append, hul]; simp) (by omega)
  have hj := until_join (L := ts.length) (st := fun j => decide (ts.length ≤ j)) (st' := fun j => decide ((ts ++ us).length ≤ j)) (fun i hi => by
      simp only [decide_eq_false_iff_not, List.length_append] at hi ⊢
      omega) (stmtP_ext hext (m := fin) (n := fin') vs' 13) _ (ts.length + 1 - i0 + (c.length + 1)) i0 _ _ hi0 h2 hback (Nat.le_refl _)
  have hf := untilP_fuel (ts := ts ++ us) (st := fun j => decide ((ts ++ us).length ≤ j)) (stmtP_ok (fin := fin') vs' 13) (ts.length + 1 - i0 + (c.length + 1) + us.length) ((ts ++ us).length + 1 - i0) i0 (by rw [List.length_append]; omega) (by rw [List.length_append]; omega) (by rw [List.length_append]; omega)
  unfold bodyP
  rw [← hf, untilP_more (by omega) _ hj]

/-! ### A text -/
/-- What program a text is, or its fault. -/
def parseOf (l : List UInt8) : Except Flt (List VarT × List ST) := if (faultOf l).1 ≠ 0 then .error (faultOf l) else parseT (toksOf l) l.length
theorem parseOf_ok {l : List UInt8} {r : List VarT × List ST} (h : parseOf l = .ok r) : ∃ ts, scanOf l = .ok ts ∧ l.length ≤ 6000 ∧ readP ts l.length = .ok r ∧ progFault r.1 r.2 = 0 := by
  unfold parseOf at h
  split at h
  · cases h
  · rename_i hf
    by_cases hl : 6000 < l.length
    · exfalso
      apply hf
      unfold faultOf
      rw [if_pos hl]
      decide
    · cases hs : scanOf l with
      | error e =>
        exfalso
        apply hf
        rw [(faultOf_error hl hs).1]
        show (7 : Int) ≠ 0
        decide
      | ok ts =>
        rw [(faultOf_ok hl hs).2] at h
        unfold parseT at h
        obtain ⟨⟨vs, b⟩, h1, h2⟩ := bnd_ok h
        dsimp only at h2
        split at h2
        · cases h2
        · rename_i hp
          injection h2 with h2
          subst h2
          exact ⟨ts, rfl, by omega, h1, by simpa using hp⟩
theorem parseOf_mk {l : List UInt8} {ts : List Tok} (hs : scanOf l = .ok ts) (hl : l.length ≤ 6000) : parseOf l = parseT ts l.length := by
  unfold parseOf
  obtain ⟨e1, e2⟩ := faultOf_ok (by omega) hs
  rw [e1, e2, if_neg (by decide)]

/-- HOW IT IS LAID OUT DOES NOT MATTER: another text with the same tokens. -/
theorem parse_blanks {l l' : List UInt8} {r : List VarT × List ST} {ts us : List Tok} (h : parseOf l = .ok r) (hs : scanOf l = .ok ts) (hs' : scanOf l' = .ok us) (hl : l'.length ≤ 6000) (hk : us.map tri = ts.map tri) : parseOf l' = .ok r := by
  obtain ⟨ts', h1, h2, _⟩ := parseOf_ok h
  rw [parseOf_mk hs h2] at h
  rw [parseOf_mk hs' hl]
  have hlike : Like ts us := by
    intro i
    have := congrArg (fun x : List Tk => x[i]?) hk
    simp only [List.getElem?_map] at this
    cases ha : ts[i]? with
    | none =>
      rw [ha] at this
      cases hb : us[i]? with
      | none => exact .inl ⟨rfl, rfl⟩
      | some b => rw [hb] at this; cases this
    | some a =>
      rw [ha] at this
      cases hb : us[i]? with
      | none => rw [hb] at this; cases this
      | some b =>
        rw [hb] at this
        simp only [Option.map_some, Option.some.injEq] at this
        unfold tri at this
        injection this with e1 e2
        injection e2 with e2 e3
        exact .inr ⟨a, b, rfl, rfl, e1.symm, e2.symm, e3.symm⟩
  exact sim_eq (parseT_like hlike) h

/-- STATEMENTS BEHIND STATEMENTS. -/
theorem parse_join {a : List UInt8} {vs : List VarT} {b c : List ST} (h : parseOf a = .ok (vs, b)) {k' : Nat} (hc : chkSs vs.length c 0 0 = .ok k') (hlc : longSs c) (hl : (a ++ 10 :: printB vs c).length ≤ 6000) :
    parseOf (a ++ 10 :: printB vs c) = if progFault vs (b ++ c) ≠ 0 then .error (progFault vs (b ++ c), -1) else .ok (vs, b ++ c) := by
  obtain ⟨ts, h1, h2, h3, h4⟩ := parseOf_ok h
  have hn := namesOk (progFault_ok h4).2.1
  have hsc : Sc (10 :: printB vs c) (tokSs vs c) := sc_bl (by decide) (sc_B hn c 0 0 k' hc hlc).1
  have hsa := scans_app (scan_scans h1) hsc.1 (.inl hsc.2)
  obtain ⟨xs, hx, hm⟩ := scans_scan hsa
  -- its first tokens are those of a, but for their places
  obtain ⟨us, vs2, rfl, hu, hv⟩ : ∃ us vs2, xs = us ++ vs2 ∧ us.map tri = ts.map tri ∧ vs2.map tri = tokSs vs c := by
    refine ⟨xs.take ts.length, xs.drop ts.length, (List.take_append_drop _ _).symm, ?_, ?_⟩
    · rw [List.map_take, hm]
      have : ts.length = (ts.map tri).length := by rw [List.length_map]
      rw [this, List.take_left]
    · rw [List.map_drop, hm]
      have : ts.length = (ts.map tri).length := by rw [List.length_map]
      rw [this, List.drop_left]
  rw [parseOf_mk hx hl]
  have hlike : Like ts us := by
    intro i
    have := congrArg (fun x : List Tk => x[i]?) hu
    simp only [List.getElem?_map] at this
    cases ha : ts[i]? with
    | none =>
      rw [ha] at this
      cases hb : us[i]? with
      | none => exact .inl ⟨rfl, rfl⟩
      | some b => rw [hb] at this; cases this
    | some a =>
      rw [ha] at this
      cases hb : us[i]? with
      | none => rw [hb] at this; cases this
      | some b =>
        rw [hb] at this
        simp only [Option.map_some, Option.some.injEq] at this
        unfold tri at this
        injection this with e1 e2
        injection e2 with e2 e3
        exact .inr ⟨a, b, rfl, rfl, e1.symm, e2.symm, e3.symm⟩
  have hread : readP us a.length = .ok (vs, b) := sim_eq (readP_like hlike) h3
  have hj := read_join (fin' := (a ++ 10 :: printB vs c).length) hread hn hc hv
  unfold parseT
  rw [hj]
  rfl
end E
end Go.Proofs.YtbojicehfbeepadDoor

/- Reading an argument: rows of integers, and lists chosen index by index. -/
namespace Go.Proofs.YtbojicehfbeepadDoor
set_option maxRecDepth 20000
set_option maxHeartbeats 4000000
namespace E

section
variable {H : Type} {enc : TypeId × Value → H} {P : Program} {w : World} {base : Nat} {spare : Nat → Bool} {held : Bool} {fuel : Nat} {t : TypeId} {cs : List Value} {x : DataW H × List MemPlace}

theorem trod_int1 {k : IntKind} (ht : P.underlying t = some (.int k)) (h : DataW.trod enc P w base spare held fuel t cs = some x) : ∃ n, cs = [.int k n] ∧ (Lit.int k n).wf = true := by
  obtain ⟨n, h1, _, h3⟩ := DataW.trod_int ht h
  exact ⟨n, h1, h3⟩

/-- Numbers, of a family of facts. -/
theorem choose_list {α : Type} {p : Nat → α → Prop} : ∀ n, (∀ i, i < n → ∃ a, p i a) → ∃ l : List α, l.length = n ∧ ∀ i a, l[i]? = some a → p i a
  | 0, _ => ⟨[], rfl, fun i a h => by simp at h⟩
  | n + 1, h => by
    obtain ⟨l, hl, hp⟩ := choose_list n fun i hi => h i (Nat.lt_succ_of_lt hi)
    obtain ⟨a, ha⟩ := h n (Nat.lt_succ_self n)
    refine ⟨l ++ [a], by simp [hl], fun i b hb => ?_⟩
    rcases Nat.lt_or_ge i l.length with hlt | hge
    · rw [List.getElem?_append_left hlt] at hb
      exact hp i b hb
    · rw [List.getElem?_append_right hge] at hb
      have : i - l.length = 0 := by
        rcases Nat.eq_zero_or_pos (i - l.length) with h0 | h0
        · exact h0
        · rw [List.getElem?_eq_none (by simp; omega)] at hb; cases hb
      rw [this] at hb
      simp at hb
      subst hb
      have hi : i = n := by omega
      rw [hi]; exact ha

/-- An array of integers. -/
theorem trod_ints {n e : Nat} {k : IntKind} (ht : P.underlying t = some (.array n e)) (he : P.underlying e = some (.int k)) (hc : P.cellsOf e = 1) (hn : P.cellsOf t = n) (h : DataW.trod enc P w base spare held fuel t cs = some x) :
    ∃ ns : List Int, cs = ns.map (fun z => Value.int k z) ∧ ns.length = n := by
  obtain ⟨xs, m, _, _, hl, hlen, hx⟩ := DataW.trod_array ht h
  have hall : ∀ i, i < n → ∃ z : Int, cs[i]? = some (.int k z) := fun i hi => by
    have h1 := hx i hi
    rw [hc, Nat.mul_one, List.getElem?_eq_getElem (by omega)] at h1
    obtain ⟨z, hz, _⟩ := trod_int1 he h1
    refine ⟨z, ?_⟩
    have : ((cs.drop i).take 1)[0]? = some (.int k z) := by rw [hz]; rfl
    simpa using this
  obtain ⟨ns, hns, hp⟩ := choose_list n hall
  refine ⟨ns, ?_, hns⟩
  apply List.ext_getElem?
  intro i
  rcases Nat.lt_or_ge i n with hi | hi
  · have h1 : ns[i]? = some ns[i] := List.getElem?_eq_getElem (by omega)
    rw [hp i _ h1]
    simp [h1]
  · rw [List.getElem?_eq_none (by omega), List.getElem?_eq_none (by simp; omega)]

theorem cells?_get {a : Addr} {n : Nat} (h : w.cells? base a n = some cs) : cs.length = n ∧ ∀ j v, cs[j]? = some v → w.cell? (a.add j) = some v := by
  unfold World.cells? at h
  split at h
  · have hl := mapM_some_length h
    simp only [List.length_range] at hl
    refine ⟨hl, fun j v hv => ?_⟩
    have hj : j < n := by
      have := (List.getElem?_eq_some_iff.1 hv).1
      omega
    have := mapM_some_get h j j (by simp [hj])
    rw [this]; exact hv
  · cases h

theorem flat_get {α : Type} {f : α → List Value} {k : Nat} (hk : 0 < k) : ∀ {L : List α} {j : Nat} {v : Value}, (∀ p ∈ L, (f p).length = k) → (L.flatMap f)[j]? = some v → ∃ p, L[j / k]? = some p ∧ (f p)[j % k]? = some v
  | [], _, _, _, h => by simp at h
  | a :: r, j, v, hl, h => by
    have ha := hl a (by simp)
    rw [List.flatMap_cons] at h
    rcases Nat.lt_or_ge j k with hj | hj
    · rw [List.getElem?_append_left (by omega)] at h
      exact ⟨a, by rw [Nat.div_eq_of_lt hj]; rfl, by rw [Nat.mod_eq_of_lt hj]; exact h⟩
    · rw [List.getElem?_append_right (by omega), ha] at h
      obtain ⟨p, h1, h2⟩ := flat_get hk (fun p hp => hl p (List.mem_cons_of_mem _ hp)) h
      refine ⟨p, ?_, ?_⟩
      · have : j / k = (j - k) / k + 1 := by
          rw [← Nat.add_div_right _ hk, Nat.sub_add_cancel hj]
        rw [this]; exact h1
      · rw [Nat.mod_eq_sub_mod hj]; exact h2
end
end E
end Go.Proofs.YtbojicehfbeepadDoor

/- Reading an argument: a slice whose elements are known. -/
namespace Go.Proofs.YtbojicehfbeepadDoor
set_option maxRecDepth 20000
set_option maxHeartbeats 4000000
namespace E

section
variable {H : Type} {enc : TypeId × Value → H} {P : Program} {w : World} {held : Bool} {fuel : Nat} {t e : TypeId} {cs : List Value} {x : DataW H × List MemPlace} {α : Type}

theorem open_list (f : α → List Value) (Q : α → Prop) (k : Nat) (hk : 0 < k) (ht : P.underlying t = some (.slice e)) (hc : P.cellsOf e = k) (hf : ∀ s, Q s → (f s).length = k)
    (hel : ∀ n cs x, DataW.trod enc P w 0 (fun _ => true) held n e cs = some x → ∃ s, cs = f s ∧ Q s) (h : DataW.trod enc P w 0 (fun _ => true) held fuel t cs = some x) :
    ∃ (a : Option Addr) (cap : Nat) (L : List α), cs = [.slice a L.length cap] ∧ (L ≠ [] → ∃ b q, a = some ⟨b, q, none⟩ ∧ b < w.heap.size ∧ w.rangeAt b q (L.flatMap f)) ∧ ∀ s ∈ L, Q s := by
  rcases Go.Deep.open_slice ht h with ⟨hcs, _⟩ | ⟨a, len, cap, m, n, D, Pl, hcs, _, hl, _, hm, _, hall⟩
  · exact ⟨none, 0, [], hcs, fun h => absurd rfl h, by simp⟩
  · simp only [if_true] at hm
    rw [hc] at hall
    have hel' : ∀ i, i < len → ∃ s : α, Q s ∧ ∀ j u, (f s)[j]? = some u → w.cell? (a.add (i * k + j)) = some u := fun i hi => by
      obtain ⟨cs', h1, h2⟩ := hall i (by omega)
      obtain ⟨s, rfl, hq⟩ := hel _ _ _ h2
      refine ⟨s, hq, fun j u hu => ?_⟩
      have := (cells?_get h1).2 j u hu
      rwa [Go.Deep.add_add] at this
    obtain ⟨L, hL, hp⟩ := choose_list len hel'
    have hQ : ∀ s ∈ L, Q s := fun s hs => by
      obtain ⟨i, hi⟩ := List.getElem?_of_mem hs
      exact (hp i s hi).1
    refine ⟨some a, cap, L, by rw [hcs, hL], fun hne => ?_, hQ⟩
    have hcell : ∀ j u, (L.flatMap f)[j]? = some u → w.cell? (a.add j) = some u := fun j u hu => by
      obtain ⟨s, h1, h2⟩ := flat_get hk (fun p hp => hf p (hQ p hp)) hu
      have := (hp _ s h1).2 _ u h2
      rwa [Nat.mul_comm, Nat.div_add_mod] at this
    obtain ⟨u0, hu0⟩ : ∃ u, (L.flatMap f)[0]? = some u := by
      cases L with
      | nil => exact absurd rfl hne
      | cons s r =>
        have hs := hf s (hQ s (by simp))
        refine ⟨(f s)[0]'(by omega), ?_⟩
        rw [List.flatMap_cons, List.getElem?_append_left (by omega), List.getElem?_eq_getElem (by omega)]
    have hc0 := hcell 0 u0 hu0
    have hsp : a.spot = none := by
      have := World.cell?_spot hc0
      simpa [Addr.add] using this
    obtain ⟨b, q, sp⟩ := a
    simp only at hsp
    subst hsp
    refine ⟨b, q, rfl, ?_, fun j u hu => by have := hcell j u hu; rwa [Addr.add_mid] at this⟩
    have := World.block_lt_of_cell? w _ hc0
    simpa [Addr.add] using this
end
end E
end Go.Proofs.YtbojicehfbeepadDoor

/- Reading an argument: trees of expressions and of statements. -/
namespace Go.Proofs.YtbojicehfbeepadDoor
set_option maxRecDepth 20000
set_option maxHeartbeats 4000000
namespace E

section
variable {H : Type} {enc : TypeId × Value → H} {P : Program} {w : World} {base : Nat} {spare : Nat → Bool} {held : Bool}

theorem open_rows {α : Type} {Q : List Value → α → Prop} {fuel : Nat} {t e : TypeId} {cs : List Value} {x : DataW H × List MemPlace} (k : Nat) (hk : 0 < k) (ht : P.underlying t = some (.slice e)) (hc : P.cellsOf e = k)
    (hel : ∀ n, n < fuel → ∀ cs x, DataW.trod enc P w base spare held n e cs = some x → ∃ s, Q cs s) (h : DataW.trod enc P w base spare held fuel t cs = some x) :
    ∃ (a : Option Addr) (cap : Nat) (L : List α) (cc : Nat → List Value), cs = [.slice a L.length cap] ∧ RowAt (fun b => b < w.heap.size) w k a L.length cc ∧ (∀ i (hi : i < L.length), Q (cc i) (L[i]'hi)) ∧ L.length ≤ cap := by
  rcases DataW.trod_slice ht h with ⟨hcs, _⟩ | ⟨a, len, cap, elems, rest, n, hn, hcs, _, _, hcap, _, hlen, hall, _⟩
  · exact ⟨none, 0, [], fun _ => [], hcs, fun h => absurd h (by simp), fun i hi => by simp at hi, by simp⟩
  · rw [hc] at hall
    have hel' : ∀ i, i < len → ∃ s : List Value × α, Q s.1 s.2 ∧ w.cells? base (a.add (i * k)) k = some s.1 := fun i hi => by
      have h1 := hall i hi
      rw [List.getElem?_eq_getElem (by omega)] at h1
      cases hcl : w.cells? base (a.add (i * k)) k with
      | none => rw [hcl] at h1; cases h1
      | some cs' =>
        rw [hcl] at h1
        obtain ⟨s, hs⟩ := hel n (by omega) cs' _ h1
        exact ⟨(cs', s), hs, rfl⟩
    obtain ⟨L, hL, hp⟩ := choose_list len hel'
    have hget : ∀ i (hi : i < L.length), (((L[i]?).map (·.1)).getD []) = (L[i]'hi).1 := fun i hi => by rw [List.getElem?_eq_getElem hi]; rfl
    refine ⟨some a, cap, L.map (·.2), fun i => ((L[i]?).map (·.1)).getD [], by rw [hcs, List.length_map, hL], ?_, fun i hi => ?_, by rw [List.length_map, hL]; exact hcap⟩
    · intro h0
      rw [List.length_map] at h0
      have hcell : ∀ i (hi : i < L.length) j v, (L[i]'hi).1[j]? = some v → w.cell? (a.add (i * k + j)) = some v := fun i hi j v hv => by
        have := (cells?_get (hp i _ (List.getElem?_eq_getElem hi)).2).2 j v hv
        rwa [Go.Deep.add_add] at this
      have hl0 : (L[0]'h0).1.length = k := (cells?_get (hp 0 _ (List.getElem?_eq_getElem h0)).2).1
      have hc0 := hcell 0 h0 0 ((L[0]'h0).1[0]'(by omega)) (List.getElem?_eq_getElem (by omega))
      have hsp : a.spot = none := by
        have := World.cell?_spot hc0
        simpa [Addr.add] using this
      obtain ⟨b, q, sp⟩ := a
      simp only at hsp
      subst hsp
      refine ⟨b, q, rfl, ?_, fun i hi j v hv => ?_⟩
      · have := World.block_lt_of_cell? w _ hc0
        simpa [Addr.add] using this
      · rw [List.length_map] at hi
        replace hv : (((L[i]?).map (·.1)).getD [])[j]? = some v := hv
        rw [hget i hi] at hv
        have := hcell i hi j v hv
        rw [Addr.add_mid] at this
        rw [Nat.add_assoc]
        exact this
    · rw [List.length_map] at hi
      show Q (((L[i]?).map (·.1)).getD []) _
      rw [hget i hi, List.getElem_map]
      exact (hp i _ (List.getElem?_eq_getElem hi)).1

/-- An expression's four cells, each read. -/
def ExprSplit (enc : TypeId × Value → H) (P : Program) (w : World) (base : Nat) (spare : Nat → Bool) (held : Bool) (tI tL tLE tE : TypeId) : Prop :=
  ∀ fuel cs x, DataW.trod enc P w base spare held fuel tE cs = some x → ∃ n c0 c1 c2 c3, fuel = n + 1 ∧ cs = [c0, c1, c2, c3] ∧
    (∃ y, DataW.trod enc P w base spare held n tI [c0] = some y) ∧ (∃ y, DataW.trod enc P w base spare held n tI [c1] = some y) ∧ (∃ y, DataW.trod enc P w base spare held n tL [c2] = some y) ∧ (∃ y, DataW.trod enc P w base spare held n tLE [c3] = some y)
/-- A statement's cells, each part read. -/
def StmtSplit (enc : TypeId × Value → H) (P : Program) (w : World) (base : Nat) (spare : Nat → Bool) (held : Bool) (tI tE tLS tS : TypeId) : Prop :=
  ∀ fuel cs x, DataW.trod enc P w base spare held fuel tS cs = some x → ∃ n c0 c1 ce cf cb co, fuel = n + 1 ∧ cs = [c0, c1] ++ ce ++ cf ++ [cb, co] ∧
    (∃ y, DataW.trod enc P w base spare held n tI [c0] = some y) ∧ (∃ y, DataW.trod enc P w base spare held n tI [c1] = some y) ∧ (∃ y, DataW.trod enc P w base spare held n tE ce = some y) ∧ (∃ y, DataW.trod enc P w base spare held n tE cf = some y) ∧
    (∃ y, DataW.trod enc P w base spare held n tLS [cb] = some y) ∧ (∃ y, DataW.trod enc P w base spare held n tLS [co] = some y)

theorem int_cell {tI : TypeId} {n : Nat} {c : Value} {y : DataW H × List MemPlace} (hI : P.underlying tI = some (.int .i64)) (h : DataW.trod enc P w base spare held n tI [c] = some y) : ∃ z, c = .int .i64 z := by
  obtain ⟨z, hz, _⟩ := trod_int1 hI h
  simp at hz
  exact ⟨z, hz⟩

theorem trod_expr {tI tL tLE tE : TypeId} (hI : P.underlying tI = some (.int .i64)) (hL : P.underlying tL = some (.int .i64)) (hLE : P.underlying tLE = some (.slice tE)) (hc : P.cellsOf tE = 4) (hsp : ExprSplit enc P w base spare held tI tL tLE tE) :
    ∀ (fuel : Nat) (cs : List Value) (x : DataW H × List MemPlace), DataW.trod enc P w base spare held fuel tE cs = some x → ∃ t, ExprV (fun b => b < w.heap.size) w cs t := by
  intro fuel
  induction fuel using Nat.strongRecOn with
  | _ fuel ih =>
    intro cs x h
    obtain ⟨n, c0, c1, c2, c3, hn, rfl, ⟨_, h0⟩, ⟨_, h1⟩, ⟨_, h2⟩, ⟨_, h3⟩⟩ := hsp fuel cs x h
    obtain ⟨op, rfl⟩ := int_cell hI h0
    obtain ⟨v, rfl⟩ := int_cell hI h1
    obtain ⟨z, rfl⟩ := int_cell hL h2
    obtain ⟨a, cap, L, cc, hcs, hr, hq, _⟩ := open_rows (Q := ExprV (fun b => b < w.heap.size) w) 4 (by decide) hLE hc (fun m hm cs x h => ih m (by omega) cs x h) h3
    simp at hcs
    subst hcs
    exact ⟨.mk op v z L, .mk cc hr hq⟩

theorem trod_stmt {tI tL tLE tE tLS tS : TypeId} (hI : P.underlying tI = some (.int .i64)) (hL : P.underlying tL = some (.int .i64)) (hLE : P.underlying tLE = some (.slice tE)) (hc : P.cellsOf tE = 4) (hsp : ExprSplit enc P w base spare held tI tL tLE tE)
    (hLS : P.underlying tLS = some (.slice tS)) (hcS : P.cellsOf tS = 12) (hspS : StmtSplit enc P w base spare held tI tE tLS tS) :
    ∀ (fuel : Nat) (cs : List Value) (x : DataW H × List MemPlace), DataW.trod enc P w base spare held fuel tS cs = some x → ∃ t, StmtV (fun b => b < w.heap.size) w cs t := by
  intro fuel
  induction fuel using Nat.strongRecOn with
  | _ fuel ih =>
    intro cs x h
    obtain ⟨n, c0, c1, ce, cf, cb, co, hn, rfl, ⟨_, h0⟩, ⟨_, h1⟩, ⟨_, h2⟩, ⟨_, h3⟩, ⟨_, h4⟩, ⟨_, h5⟩⟩ := hspS fuel cs x h
    obtain ⟨op, rfl⟩ := int_cell hI h0
    obtain ⟨v, rfl⟩ := int_cell hI h1
    obtain ⟨e, he⟩ := trod_expr hI hL hLE hc hsp n ce _ h2
    obtain ⟨f, hf⟩ := trod_expr hI hL hLE hc hsp n cf _ h3
    obtain ⟨ab, capb, Lb, ccb, hcb, hrb, hqb, _⟩ := open_rows (Q := StmtV (fun b => b < w.heap.size) w) 12 (by decide) hLS hcS (fun m hm cs x h => ih m (by omega) cs x h) h4
    obtain ⟨ao, capo, Lo, cco, hco, hro, hqo, _⟩ := open_rows (Q := StmtV (fun b => b < w.heap.size) w) 12 (by decide) hLS hcS (fun m hm cs x h => ih m (by omega) cs x h) h5
    simp at hcb hco
    subst hcb
    subst hco
    exact ⟨.mk op v e f Lb Lo, .mk ccb cco he hf hrb hqb hro hqo⟩
end
end E
end Go.Proofs.YtbojicehfbeepadDoor

/- Variables of a program, as they lie in memory and as they are read. -/
namespace Go.Proofs.YtbojicehfbeepadDoor
set_option maxRecDepth 20000
set_option maxHeartbeats 4000000
namespace E

def vcell (x : VarT) : List Value := [.string x.1, .int .i64 x.2]

/-- A slice of variables. -/
def VarsV (F : Nat → Prop) (w : World) (v : Value) (l : List VarT) : Prop :=
  ∃ a cap, v = .slice a l.length cap ∧ l.length ≤ cap ∧ RowAt F w 2 a l.length (fun i => vcell (l.getD i (ByteArray.empty, 0)))

section
variable {F F' : Nat → Prop} {w w' : World} {v : Value} {l : List VarT}
theorem VarsV.keep {fp : List Nat} (h : VarsV F w v l) (hk : Keep fp w w') (hs : Stays F w fp) : VarsV F w' v l := by
  obtain ⟨a, cap, hv, hc, hr⟩ := h
  exact ⟨a, cap, hv, hc, hr.keep hk hs⟩
theorem VarsV.mono (h : VarsV F w v l) (hF : ∀ b, F b → F' b) : VarsV F' w v l := by
  obtain ⟨a, cap, hv, hc, hr⟩ := h
  exact ⟨a, cap, hv, hc, hr.mono hF⟩
theorem VarsV.form (h : VarsV F w v l) : ∃ a cap, v = .slice a l.length cap := by
  obtain ⟨a, cap, hv, _⟩ := h
  exact ⟨a, cap, hv⟩
theorem VarsV.room {a : Option Addr} {cap : Nat} (h : VarsV F w (.slice a l.length cap) l) : l.length ≤ cap := by
  obtain ⟨a', cap', hv, hc, _⟩ := h
  cases hv
  exact hc
theorem VarsV.at (h : VarsV F w v l) {i : Nat} {x : VarT} (hx : l[i]? = some x) : ∃ b q cap, v = .slice (some ⟨b, q, none⟩) l.length cap ∧ F b ∧ w.rangeAt b (q + i * 2) (vcell x) := by
  obtain ⟨a, cap, hv, _, hr⟩ := h
  obtain ⟨hlt, e⟩ := List.getElem?_eq_some_iff.1 hx
  obtain ⟨b, q, ha, hF, hra⟩ := hr (by omega)
  have this : w.rangeAt b (q + i * 2) (vcell (l.getD i (ByteArray.empty, 0))) := hra i hlt
  rw [List.getD_eq_getElem?_getD, hx] at this
  exact ⟨b, q, cap, by rw [hv, ha], hF, this⟩
end

/-- A program as a value: its variables, its body. -/
def ProgV (F : Nat → Prop) (w : World) (v : Value) (vs : List VarT) (b : List ST) : Prop := ∃ vv bv, v = .agg #[vv, bv] ∧ VarsV F w vv vs ∧ StmtsV F w bv b
theorem ProgV.keep {F : Nat → Prop} {w w' : World} {v : Value} {vs : List VarT} {b : List ST} {fp : List Nat} (h : ProgV F w v vs b) (hk : Keep fp w w') (hs : Stays F w fp) : ProgV F w' v vs b := by
  obtain ⟨vv, bv, hv, h1, h2⟩ := h
  exact ⟨vv, bv, hv, h1.keep hk hs, h2.keep hk hs⟩
theorem ProgV.mono {F F' : Nat → Prop} {w : World} {v : Value} {vs : List VarT} {b : List ST} (h : ProgV F w v vs b) (hF : ∀ b, F b → F' b) : ProgV F' w v vs b := by
  obtain ⟨vv, bv, hv, h1, h2⟩ := h
  exact ⟨vv, bv, hv, h1.mono hF, h2.mono hF⟩

section
variable {H : Type} {enc : TypeId × Value → H} {P : Program} {w : World} {base : Nat} {spare : Nat → Bool} {held : Bool}
/-- A variable's two cells, each read. -/
def VarSplit (enc : TypeId × Value → H) (P : Program) (w : World) (base : Nat) (spare : Nat → Bool) (held : Bool) (tStr tI tV : TypeId) : Prop :=
  ∀ fuel cs x, DataW.trod enc P w base spare held fuel tV cs = some x → ∃ n c0 c1, fuel = n + 1 ∧ cs = [c0, c1] ∧ (∃ y, DataW.trod enc P w base spare held n tStr [c0] = some y) ∧ (∃ y, DataW.trod enc P w base spare held n tI [c1] = some y)

theorem trod_vars {tStr tI tLV tV : TypeId} (hS : P.underlying tStr = some .string) (hI : P.underlying tI = some (.int .i64)) (hLV : P.underlying tLV = some (.slice tV)) (hc : P.cellsOf tV = 2) (hsp : VarSplit enc P w base spare held tStr tI tV)
    {fuel : Nat} {cs : List Value} {x : DataW H × List MemPlace} (h : DataW.trod enc P w base spare held fuel tLV cs = some x) : ∃ vv l, cs = [vv] ∧ VarsV (fun b => b < w.heap.size) w vv l := by
  obtain ⟨a, cap, L, cc, hcs, hr, hq, hcap⟩ := open_rows (Q := fun cs (x : VarT) => cs = vcell x) 2 (by decide) hLV hc (fun m _ cs x h => by
    obtain ⟨n, c0, c1, _, rfl, ⟨_, h0⟩, ⟨_, h1⟩⟩ := hsp m cs x h
    obtain ⟨s, hs, _⟩ := DataW.trod_string hS h0
    obtain ⟨z, hz⟩ := int_cell hI h1
    simp at hs
    exact ⟨(s, z), by rw [hs, hz]; rfl⟩) h
  refine ⟨_, L, hcs, a, cap, rfl, hcap, fun h0 => ?_⟩
  obtain ⟨b, q, ha, hF, hra⟩ := hr h0
  refine ⟨b, q, ha, hF, fun i hi => ?_⟩
  have := hra i hi
  rw [hq i hi] at this
  show w.rangeAt b (q + i * 2) (vcell (L.getD i (ByteArray.empty, 0)))
  rw [List.getD_eq_getElem?_getD, List.getElem?_eq_getElem hi]
  exact this
end
end E
end Go.Proofs.YtbojicehfbeepadDoor

/- Functions with several results; rows of trees that are being made. -/
namespace Go.Proofs.YtbojicehfbeepadDoor
set_option maxRecDepth 20000
set_option maxHeartbeats 4000000
namespace E

section
variable {P : Program} {f n : Nat} {k : List Item} {K Kp : Value → World → Prop} {σ : Env} {w : World}

theorem rn_ret3 {fn : Func} {t0 t1 t2 : Nat} {v0 v1 v2 : Value} (hf : P.funcs[f]? = some fn) (hr : fn.results = #[.tmp t0, .tmp t1, .tmp t2]) (h0 : look σ t0 = some v0) (h1 : look σ t1 = some v1) (h2 : look σ t2 = some v2)
    (hR : K (.tuple #[v0, v1, v2]) w) : Rn P f n (.code .ret :: k) (endR K Kp) σ w := fun a ha hd =>
  runs_ret hf hd (by simp only [results, hr]; simp [ha.has t0 _ h0, ha.has t1 _ h1, ha.has t2 _ h2]) hR
theorem rn_ret5 {fn : Func} {t0 t1 t2 t3 t4 : Nat} {v0 v1 v2 v3 v4 : Value} (hf : P.funcs[f]? = some fn) (hr : fn.results = #[.tmp t0, .tmp t1, .tmp t2, .tmp t3, .tmp t4]) (h0 : look σ t0 = some v0) (h1 : look σ t1 = some v1) (h2 : look σ t2 = some v2)
    (h3 : look σ t3 = some v3) (h4 : look σ t4 = some v4) (hR : K (.tuple #[v0, v1, v2, v3, v4]) w) : Rn P f n (.code .ret :: k) (endR K Kp) σ w := fun a ha hd =>
  runs_ret hf hd (by simp only [results, hr]; simp [ha.has t0 _ h0, ha.has t1 _ h1, ha.has t2 _ h2, ha.has t3 _ h3, ha.has t4 _ h4]) hR
end

section
variable {w : World} {B e k : Nat} {v : Value}

theorem flatten_at {k : Nat} {ccs : List (List Value)} (hk : ∀ c ∈ ccs, c.length = k) {i : Nat} {c : List Value} (h : ccs[i]? = some c) : (ccs.flatten.drop (i * k)).take k = c := by
  have := flat_at (f := fun x : List Value => x) (k := k) hk h
  simpa [List.flatMap_id'] using this
theorem flatten_length {k : Nat} {ccs : List (List Value)} (hk : ∀ c ∈ ccs, c.length = k) : ccs.flatten.length = ccs.length * k := by
  have := flat_length (f := fun x : List Value => x) (k := k) hk
  simpa [List.flatMap_id'] using this

/-- A row that is owned, by its elements. -/
theorem own_rowAt {ccs : List (List Value)} (h : Own w B e k v ccs.length ccs.flatten) (hk : ∀ c ∈ ccs, c.length = k) :
    ∃ a cap, v = .slice a ccs.length cap ∧ RowAt (fun b => v.ownBlock = some b) w k a ccs.length (fun i => ccs.getD i []) := by
  obtain ⟨a, cap, hv⟩ := h.form
  refine ⟨a, cap, hv, fun h0 => ?_⟩
  obtain ⟨g, cap', hv', hr⟩ := h.range (q := 0) (cs := ccs.flatten) (by rw [List.drop_zero, List.take_length]) h0
  rw [hv] at hv'
  injection hv' with e1 e2 e3
  subst e1
  refine ⟨g, 0, rfl, by rw [hv]; rfl, fun i hi j u hu => ?_⟩
  replace hu : (ccs.getD i [])[j]? = some u := hu
  rw [List.getD_eq_getElem?_getD, List.getElem?_eq_getElem hi] at hu
  have hc := hk _ (List.getElem_mem hi)
  have hj : j < k := by
    have := (List.getElem?_eq_some_iff.1 hu).1
    simp only [Option.getD_some] at this
    omega
  have hat := flatten_at hk (List.getElem?_eq_getElem hi)
  simp only [Option.getD_some] at hu
  rw [← hat, List.getElem?_take, if_pos hj, List.getElem?_drop] at hu
  have := hr (i * k + j) u hu
  rwa [← Nat.add_assoc] at this

theorem exprs_of_own {F : Nat → Prop} {ccs : List (List Value)} {l : List ET} (h : Own w B e 4 v ccs.length ccs.flatten) (hl : ccs.length = l.length) (hc : ∀ i (hi : i < l.length), ExprV F w (ccs.getD i []) (l[i]'hi)) : ExprsV (fun b => v.ownBlock = some b ∨ F b) w v l := by
  have hk : ∀ c ∈ ccs, c.length = 4 := fun c hm => by
    obtain ⟨i, hi, rfl⟩ := List.mem_iff_getElem.1 hm
    have := (hc i (by omega)).length
    rwa [List.getD_eq_getElem?_getD, List.getElem?_eq_getElem hi] at this
  obtain ⟨a, cap, hv, hr⟩ := own_rowAt h hk
  rw [hl] at hv hr
  exact ⟨a, cap, _, hv, hr.mono fun b hb => .inl hb, fun i hi => (hc i hi).mono fun b hb => .inr hb⟩
theorem stmts_of_own {F : Nat → Prop} {ccs : List (List Value)} {l : List ST} (h : Own w B e 12 v ccs.length ccs.flatten) (hl : ccs.length = l.length) (hc : ∀ i (hi : i < l.length), StmtV F w (ccs.getD i []) (l[i]'hi)) : StmtsV (fun b => v.ownBlock = some b ∨ F b) w v l := by
  have hk : ∀ c ∈ ccs, c.length = 12 := fun c hm => by
    obtain ⟨i, hi, rfl⟩ := List.mem_iff_getElem.1 hm
    have := (hc i (by omega)).length
    rwa [List.getD_eq_getElem?_getD, List.getElem?_eq_getElem hi] at this
  obtain ⟨a, cap, hv, hr⟩ := own_rowAt h hk
  rw [hl] at hv hr
  exact ⟨a, cap, _, hv, hr.mono fun b hb => .inl hb, fun i hi => (hc i hi).mono fun b hb => .inr hb⟩
end
end E
end Go.Proofs.YtbojicehfbeepadDoor

/- Trees' sizes. -/
namespace Go.Proofs.YtbojicehfbeepadDoor
set_option maxRecDepth 20000
set_option maxHeartbeats 4000000
namespace E
theorem In.stays {F : Nat → Prop} {w : World} (h : In F w) : Stays F w [] := fun k hk => ⟨h k hk, by simp⟩
/-! ### Sizes -/
theorem szE_pos (t : ET) : 1 ≤ szE t := by cases t; simp only [szE]; omega
theorem szS_pos (t : ST) : 1 ≤ szS t := by cases t; simp only [szS]; omega
theorem szEs_len : ∀ (l : List ET), l.length ≤ szEs l
  | [] => by simp [szEs]
  | t :: r => by have := szEs_len r; have := szE_pos t; simp only [List.length_cons, szEs]; omega
theorem szSs_len : ∀ (l : List ST), l.length ≤ szSs l
  | [] => by simp [szSs]
  | t :: r => by have := szSs_len r; have := szS_pos t; simp only [List.length_cons, szSs]; omega
theorem szEs_append : ∀ (a b : List ET), szEs (a ++ b) = szEs a + szEs b
  | [], b => by simp [szEs]
  | t :: r, b => by simp only [List.cons_append, szEs, szEs_append r b]; omega
theorem szSs_append : ∀ (a b : List ST), szSs (a ++ b) = szSs a + szSs b
  | [], b => by simp [szSs]
  | t :: r, b => by simp only [List.cons_append, szSs, szSs_append r b]; omega
theorem szEs_succ {l : List ET} {i : Nat} {t : ET} (h : l[i]? = some t) : szEs (l.take (i + 1)) = szEs (l.take i) + szE t := by
  obtain ⟨hlt, e⟩ := List.getElem?_eq_some_iff.1 h
  rw [List.take_succ_eq_append_getElem hlt, szEs_append, e]
  simp [szEs]
theorem szSs_succ {l : List ST} {i : Nat} {t : ST} (h : l[i]? = some t) : szSs (l.take (i + 1)) = szSs (l.take i) + szS t := by
  obtain ⟨hlt, e⟩ := List.getElem?_eq_some_iff.1 h
  rw [List.take_succ_eq_append_getElem hlt, szSs_append, e]
  simp [szSs]
theorem szEs_take (l : List ET) (i : Nat) : szEs (l.take i) ≤ szEs l := by
  have e : szEs l = szEs (l.take i) + szEs (l.drop i) := by rw [← szEs_append, List.take_append_drop]
  omega
theorem szSs_take (l : List ST) (i : Nat) : szSs (l.take i) ≤ szSs l := by
  have e : szSs l = szSs (l.take i) + szSs (l.drop i) := by rw [← szSs_append, List.take_append_drop]
  omega
theorem szEs_ge {l : List ET} {i : Nat} (h : i ≤ l.length) : i ≤ szEs (l.take i) := by
  have := szEs_len (l.take i)
  rw [List.length_take] at this
  omega
theorem szSs_ge {l : List ST} {i : Nat} (h : i ≤ l.length) : i ≤ szSs (l.take i) := by
  have := szSs_len (l.take i)
  rw [List.length_take] at this
  omega
theorem szEs_at {l : List ET} {i : Nat} {t : ET} (h : l[i]? = some t) : szE t ≤ szEs l := by
  have := szEs_succ h
  have := szEs_take l (i + 1)
  omega
theorem szSs_at {l : List ST} {i : Nat} {t : ST} (h : l[i]? = some t) : szS t ≤ szSs l := by
  have := szSs_succ h
  have := szSs_take l (i + 1)
  omega
/-! ### Variables that are owned -/
theorem vars_of_own {w : World} {B e : Nat} {v : Value} {vs : List VarT} (h : Own w B e 2 v vs.length (vs.flatMap vcell)) : VarsV (fun b => B ≤ b ∧ b < w.heap.size) w v vs := by
  rcases h.2 with ⟨hv, h0⟩ | ⟨g, cap, cur, hv, hB, hb, hc, hl, ht⟩
  · have : vs = [] := List.eq_nil_of_length_eq_zero h0
    subst this
    exact ⟨none, 0, hv, by simp, fun h => absurd h (by simp)⟩
  · refine ⟨_, cap, hv, hc, fun h0 => ⟨g, 0, rfl, ⟨hB, hb.lt⟩, fun i hi => ?_⟩⟩
    have hx : vs[i]? = some vs[i] := List.getElem?_eq_getElem hi
    have hf := flat_at (f := vcell) (k := 2) (fun p _ => rfl) hx
    show w.rangeAt g (0 + i * 2) (vcell (vs.getD i (ByteArray.empty, 0)))
    rw [List.getD_eq_getElem?_getD, hx]
    rw [Nat.zero_add]
    refine hb.range ?_
    show (cur.drop (i * 2)).take 2 = vcell vs[i]
    rw [← hf, ← ht, List.drop_take, List.take_take, Nat.min_eq_left (by omega)]
end E
end Go.Proofs.YtbojicehfbeepadDoor
