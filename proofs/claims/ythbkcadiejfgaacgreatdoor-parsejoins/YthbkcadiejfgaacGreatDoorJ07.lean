/- Several texts in one: PlM, PrtL, PlN, PtA, CoA, CoB, CoM. -/
import Derived.Test.YthbkcadiejfgaacGreatDoorJ06
import Derived.Test.YthbkcadiejfgaacGreatDoorJ05
import Derived.Lib.ItoaLen
import Derived.Test.YthbkcadiejfgaacGreatDoorJ04
import Derived.Test.YthbkcadiejfgaacGreatDoorJ02
/- Plain mathematics for the laws of package parse: other blanks between the tokens. -/
namespace Go.Proofs.YthbkcadiejfgaacGreatDoor
set_option maxRecDepth 20000
set_option maxHeartbeats 4000000
namespace E
open Go.Proofs

theorem scans_skip {c : UInt8} {T : List UInt8} {K : List Tk} (h : blankB c = true) (hT : Scans T K) : Scans (c :: T) K := by
  intro f pos rest hr hl
  obtain ⟨us, h1, h2⟩ := hT f (pos + 1) rest hr (by simp only [List.cons_append, List.length_cons] at hl; omega)
  refine ⟨us, h1, fun acc => ?_⟩
  rw [List.cons_append] at hl ⊢
  rw [toks_skip (bit_blank c _ h) hl, h2, List.length_cons]
  congr 2
  omega
def joinW (sep : List UInt8) : List Tok → List UInt8
  | [] => []
  | t :: r => (t.text ++ sep) ++ joinW sep r
theorem joinW_snoc (sep : List UInt8) (t : Tok) : ∀ l, joinW sep (l ++ [t]) = joinW sep l ++ (t.text ++ sep)
  | [] => by simp [joinW]
  | x :: r => by simp only [List.cons_append, joinW, joinW_snoc sep t r, List.append_assoc]
theorem joinW_take (sep : List UInt8) {l : List Tok} {i : Nat} {t : Tok} (h : l[i]? = some t) : joinW sep (l.take (i + 1)) = joinW sep (l.take i) ++ (t.text ++ sep) := by
  obtain ⟨hi, rfl⟩ := List.getElem?_eq_some_iff.1 h
  rw [List.take_succ_eq_append_getElem hi, joinW_snoc]
theorem joinW_len (sep : List UInt8) : ∀ l, (joinW sep l).length = textLen l + sep.length * l.length
  | [] => by simp [joinW, textLen]
  | x :: r => by
    simp only [joinW, textLen, List.length_append, List.length_cons, joinW_len sep r, Nat.mul_add]
    omega
theorem textLen_take : ∀ (ts : List Tok) (i : Nat), textLen (ts.take i) ≤ textLen ts
  | [], i => by simp [textLen]
  | x :: r, 0 => by simp [textLen]
  | x :: r, i + 1 => by
    have := textLen_take r i
    simp only [List.take_succ_cons, textLen]
    omega
theorem fine_len : ∀ {ts : List Tok}, fine ts → ts.length ≤ textLen ts
  | [], _ => Nat.le_refl _
  | x :: r, h => by
    obtain ⟨⟨c, u, r0, h1, _⟩, h2⟩ := h
    have := fine_len h2
    simp only [textLen, List.length_cons, h1]
    omega
theorem scans_sep {c : UInt8} {s : List UInt8} (hc : blankB c = true) (hs : s.all blankB = true) : ∀ {ts : List Tok}, fine ts → Scans (joinW (c :: s) ts) (ts.map tri)
  | [], _ => scans_nil
  | x :: r, h => by
    obtain ⟨⟨a, u, r0, h1, h3⟩, h2⟩ := h
    have ih := scans_sep hc hs h2
    have hb : bit a u = .tok (a :: u) x.num x.val := by
      have := bit_again h3 []
      rwa [bit_brk (q := [32]) (by decide)] at this
    have hx : Scans x.text [tri x] := by
      have := scans_tok hb
      rw [← h1] at this
      exact this
    have hss : ∀ s : List UInt8, s.all blankB = true → Scans (s ++ joinW (c :: s) r) (r.map tri) → True := fun _ _ _ => trivial
    have hsk : ∀ (s' : List UInt8), s'.all blankB = true → Scans (s' ++ joinW (c :: s) r) (r.map tri) := by
      intro s' hs'
      induction s' with
      | nil => exact ih
      | cons d s' ih' =>
        simp only [List.all_cons, Bool.and_eq_true] at hs'
        exact scans_skip hs'.1 (ih' hs'.2)
    have h4 : Scans (c :: (s ++ joinW (c :: s) r)) (r.map tri) := scans_skip hc (hsk s hs)
    have := scans_app hx h4 (.inl (by simp [brk, hc]))
    simp only [joinW, List.append_assoc, List.cons_append]
    exact this
theorem blanks_ok {l : List UInt8} {r : List VarT × List ST} (h : parseOf l = .ok r) (hl : l.length ≤ 1900) : fine (toksOf l) ∧ textLen (toksOf l) ≤ l.length ∧ parseOf (9 :: joinW [32, 10] (toksOf l)) = .ok r ∧ parseOf (joinW [13] (toksOf l)) = .ok r := by
  obtain ⟨ts, h1, h2, _⟩ := parseOf_ok h
  have e : toksOf l = ts := by
    unfold toksOf
    rw [if_neg (by omega), h1]
  rw [e]
  obtain ⟨hf, ht⟩ := toks_fine _ _ _ _ h1
  have hn := fine_len hf
  have hj1 := joinW_len [32, 10] ts
  have hj2 := joinW_len [13] ts
  simp only [List.length_cons, List.length_nil] at hj1 hj2
  obtain ⟨us, hs1, hs2⟩ := scans_scan (scans_skip (c := 9) (by decide) (scans_sep (c := 32) (s := [10]) (by decide) (by decide) hf))
  obtain ⟨us', hs1', hs2'⟩ := scans_scan (scans_sep (c := 13) (s := []) (by decide) (by decide) hf)
  exact ⟨hf, ht, parse_blanks h h1 hs1 (by simp only [List.length_cons]; omega) hs2, parse_blanks h h1 hs1' (by omega) hs2'⟩
theorem parseOf_size {l : List UInt8} {vs : List VarT} {b : List ST} (h : parseOf l = .ok (vs, b)) : szSs b ≤ 18000 ∧ vs.length ≤ 8 ∧ longSs b ∧ progFault vs b = 0 := by
  obtain ⟨ts, h1, h2, h3, h4⟩ := parseOf_ok h
  have hlong := readP_long (scan_long h1) h3
  obtain ⟨hf, ht⟩ := toks_fine _ _ _ _ h1
  have hn := fine_len hf
  unfold readP at h3
  obtain ⟨⟨vs', i⟩, ha, h3⟩ := bnd_ok h3
  obtain ⟨⟨b', j⟩, hb, h3⟩ := bnd_ok h3
  injection h3 with h3
  injection h3 with h3 h5
  subst h3 h5
  have hi := (untilP_ok (fun i r hr => letP_ok hr) _ _ _ (Nat.zero_le _) ha).2.1
  have hj := (untilP_ok (fun i r hr => stmtP_ok vs' 13 i r hr) _ _ _ hi hb).2.1
  have hs := untilP_size (stmtP_size vs' 13) _ _ _ hb
  dsimp only at hi hj hs
  exact ⟨by omega, (progFault_ok h4).1, hlong, h4⟩
end E
end Go.Proofs.YthbkcadiejfgaacGreatDoor

/- What a tree must be to be printed; how long its print is. -/
namespace Go.Proofs.YthbkcadiejfgaacGreatDoor
set_option maxRecDepth 20000
set_option maxHeartbeats 4000000
namespace E
open Go.Proofs Go.Lib

mutual
def prE (nv : Nat) : ET → Prop
  | .mk op v n l => 1 ≤ op ∧ op ≤ 8 ∧ (op = 2 ∨ op = 3 → 0 ≤ v ∧ v.toNat < nv) ∧ in64 n ∧ prEs nv l
def prEs (nv : Nat) : List ET → Prop
  | [] => True
  | t :: r => prE nv t ∧ prEs nv r
end
mutual
def prS (nv : Nat) : ST → Prop
  | .mk op v e f b o => 1 ≤ op ∧ op ≤ 7 ∧ (needV op = true → 0 ≤ v ∧ v.toNat < nv) ∧ (needE op = true → prE nv e) ∧ (needF op = true → prE nv f) ∧ prSs nv b ∧ prSs nv o
def prSs (nv : Nat) : List ST → Prop
  | [] => True
  | t :: r => prS nv t ∧ prSs nv r
end
theorem prEs_at {nv : Nat} : ∀ {l : List ET} {i : Nat} {t : ET}, prEs nv l → l[i]? = some t → prE nv t
  | [], _, _, _, h => by simp at h
  | x :: r, 0, t, h, e => by simp at e; subst e; exact h.1
  | x :: r, i + 1, t, h, e => by simp at e; exact prEs_at h.2 e
theorem prSs_at {nv : Nat} : ∀ {l : List ST} {i : Nat} {t : ST}, prSs nv l → l[i]? = some t → prS nv t
  | [], _, _, _, h => by simp at h
  | x :: r, 0, t, h, e => by simp at e; subst e; exact h.1
  | x :: r, i + 1, t, h, e => by simp at e; exact prSs_at h.2 e
mutual
theorem chkE_pr {nv : Nat} : ∀ (t : ET) {d k k' : Nat}, chkE nv t d k = .ok k' → longE t → prE nv t
  | .mk op v n l, d, k, k', h, hl => by
    obtain ⟨_, h1, k1, h2⟩ := chkE_inv h
    obtain ⟨a, b, _, _, c, _⟩ := ownE_inv h1
    exact ⟨a, b, c, hl.1, chkEs_pr l h2 hl.2⟩
theorem chkEs_pr {nv : Nat} : ∀ (l : List ET) {d k k' : Nat}, chkEs nv l d k = .ok k' → longEs l → prEs nv l
  | [], _, _, _, _, _ => trivial
  | t :: r, d, k, k', h, hl => by
    obtain ⟨⟨k1, h1⟩, k2, h2⟩ := chkEs_inv h
    exact ⟨chkE_pr t h1 hl.1, chkEs_pr r h2 hl.2⟩
end
mutual
theorem chkS_pr {nv : Nat} : ∀ (t : ST) {d k k' : Nat}, chkS nv t d k = .ok k' → longSt t → prS nv t
  | .mk op v e f b o, d, k, k', h, hl => by
    obtain ⟨_, h1, h2, h3, ⟨k1, k2, h4⟩, k3, k4, h5⟩ := chkS_inv h
    obtain ⟨a, a', _, _, _, _, c, _⟩ := ownS_inv h1
    exact ⟨a, a', c, fun hn => (let ⟨_, _, hc⟩ := h2 hn; chkE_pr e hc hl.1), fun hn => (let ⟨_, _, hc⟩ := h3 hn; chkE_pr f hc hl.2.1), chkSs_pr b h4 hl.2.2.1, chkSs_pr o h5 hl.2.2.2⟩
theorem chkSs_pr {nv : Nat} : ∀ (l : List ST) {d k k' : Nat}, chkSs nv l d k = .ok k' → longSs l → prSs nv l
  | [], _, _, _, _, _ => trivial
  | t :: r, d, k, k', h, hl => by
    obtain ⟨⟨k1, h1⟩, k2, h2⟩ := chkSs_inv h
    exact ⟨chkS_pr t h1 hl.1, chkSs_pr r h2 hl.2⟩
end

/-! ### Lengths -/
def nm8 (vs : List VarT) : Prop := ∀ y ∈ vs, y.1.size ≤ 8
theorem nameV_len {vs : List VarT} (h : nm8 vs) (v : Nat) : (nameV vs v).length ≤ 8 := by
  unfold nameV
  rw [List.getD_eq_getElem?_getD]
  cases hv : vs[v]? with
  | none => simp
  | some y =>
    have := h y (List.mem_of_getElem? hv)
    rw [Option.getD_some, size_toList]
    exact this
theorem wordT_len (k : Nat) : (wordT k).length ≤ 8 := by
  unfold wordT
  repeat' split
  all_goals decide
theorem verbT_len (k : Nat) : (verbT k).length ≤ 8 := by
  unfold verbT
  repeat' split
  all_goals decide
mutual
theorem printE_len {vs : List VarT} {nv : Nat} (hn : nm8 vs) : ∀ (t : ET), prE nv t → (printE vs t).length + 1 ≤ 64 * szE t
  | .mk op v n l, h => by
    obtain ⟨_, _, _, h4, h5⟩ := h
    have i1 := printEs_len hn l h5
    have i2 := wordT_len op.toNat
    have i3 := nameV_len hn v.toNat
    have i4 := itoa_length_le n h4.1 h4.2
    simp only [printE, szE]
    split <;> split <;> simp only [List.length_cons, List.length_append, List.length_nil] <;> omega
theorem printEs_len {vs : List VarT} {nv : Nat} (hn : nm8 vs) : ∀ (l : List ET), prEs nv l → (printEs vs l).length ≤ 64 * szEs l
  | [], _ => by simp [printEs]
  | t :: r, h => by
    have i1 := printE_len hn t h.1
    have i2 := printEs_len hn r h.2
    simp only [printEs, szEs, List.length_cons, List.length_append]
    omega
end
mutual
theorem printS_len {vs : List VarT} {nv : Nat} (hn : nm8 vs) : ∀ (t : ST), prS nv t → (printS vs t).length + 1 ≤ 64 * szS t
  | .mk op v e f b o, h => by
    obtain ⟨_, _, _, h4, h5, h6, h7⟩ := h
    have i1 := printSs_len hn b false h6
    have i1' := printSs_len hn o false h7
    have i2 := verbT_len op.toNat
    have i3 := nameV_len hn v.toNat
    have i4 : (if needE op = true then 32 :: printE vs e else []).length ≤ 64 * szE e := by
      split
      · rename_i hh
        have := printE_len hn e (h4 hh)
        simp only [List.length_cons]; omega
      · simp
    have i5 : (if needF op = true then 32 :: printE vs f else []).length ≤ 64 * szE f := by
      split
      · rename_i hh
        have := printE_len hn f (h5 hh)
        simp only [List.length_cons]; omega
      · simp
    have i6 : (if needV op = true then 32 :: nameV vs v.toNat else []).length ≤ 9 := by
      split
      · simp only [List.length_cons]; omega
      · simp
    have i7 : (if needB op = true then 32 :: 40 :: (printSs vs false b ++ [41]) else []).length ≤ 64 * szSs b + 3 := by
      split
      · simp only [List.length_cons, List.length_append, List.length_nil]; omega
      · simp
    have i8 : (if needO op = true then 32 :: 40 :: (printSs vs false o ++ [41]) else []).length ≤ 64 * szSs o + 3 := by
      split
      · simp only [List.length_cons, List.length_append, List.length_nil]; omega
      · simp
    simp only [printS, szS, List.length_cons, List.length_append, List.length_nil]
    omega
theorem printSs_len {vs : List VarT} {nv : Nat} (hn : nm8 vs) : ∀ (l : List ST) (c : Bool), prSs nv l → (printSs vs c l).length ≤ 64 * szSs l
  | [], _, _ => by simp [printSs]
  | t :: r, c, h => by
    have i1 := printS_len hn t h.1
    have i2 := printSs_len hn r true h.2
    cases c <;> simp [printSs, szSs, List.length_append] <;> omega
end
/-! ### One more -/
theorem printEs_snoc (vs : List VarT) (t : ET) : ∀ (l : List ET), printEs vs (l ++ [t]) = printEs vs l ++ 32 :: printE vs t
  | [] => by simp [printEs]
  | x :: r => by simp only [List.cons_append, printEs, printEs_snoc vs t r, List.append_assoc]
theorem printSs_snoc (vs : List VarT) (t : ST) : ∀ (l : List ST) (c : Bool), printSs vs c (l ++ [t]) = printSs vs c l ++ ((if c || decide (0 < l.length) then [32] else []) ++ printS vs t)
  | [], c => by cases c <;> simp [printSs]
  | x :: r, c => by
    simp only [List.cons_append, printSs, printSs_snoc vs t r true, List.append_assoc]
    cases c <;> simp
theorem printEs_take (vs : List VarT) {l : List ET} {i : Nat} {t : ET} (h : l[i]? = some t) : printEs vs (l.take (i + 1)) = printEs vs (l.take i) ++ 32 :: printE vs t := by
  obtain ⟨hi, rfl⟩ := List.getElem?_eq_some_iff.1 h
  rw [List.take_succ_eq_append_getElem hi, printEs_snoc]
theorem printSs_take (vs : List VarT) {l : List ST} {i : Nat} {t : ST} (h : l[i]? = some t) : printSs vs false (l.take (i + 1)) = printSs vs false (l.take i) ++ ((if 0 < i then [32] else []) ++ printS vs t) := by
  obtain ⟨hi, rfl⟩ := List.getElem?_eq_some_iff.1 h
  rw [List.take_succ_eq_append_getElem hi, printSs_snoc]
  have e : (l.take i).length = i := by simp; omega
  rw [e]
  simp
theorem printB_snoc (vs : List VarT) (t : ST) : ∀ (l : List ST), printB vs (l ++ [t]) = printB vs l ++ (printS vs t ++ [10])
  | [] => by simp [printB]
  | x :: r => by simp only [List.cons_append, printB, printB_snoc vs t r, List.append_assoc]
theorem printB_take (vs : List VarT) {l : List ST} {i : Nat} {t : ST} (h : l[i]? = some t) : printB vs (l.take (i + 1)) = printB vs (l.take i) ++ (printS vs t ++ [10]) := by
  obtain ⟨hi, rfl⟩ := List.getElem?_eq_some_iff.1 h
  rw [List.take_succ_eq_append_getElem hi, printB_snoc]
theorem printV_snoc (x : VarT) : ∀ (l : List VarT), printV (l ++ [x]) = printV l ++ (letT ++ 32 :: (x.1.data.toList ++ 32 :: (itoa x.2 ++ [10])))
  | [] => by simp [printV]
  | y :: r => by simp only [List.cons_append, printV, printV_snoc x r, List.append_assoc]
theorem printV_take {l : List VarT} {i : Nat} {x : VarT} (h : l[i]? = some x) : printV (l.take (i + 1)) = printV (l.take i) ++ (letT ++ 32 :: (x.1.data.toList ++ 32 :: (itoa x.2 ++ [10]))) := by
  obtain ⟨hi, rfl⟩ := List.getElem?_eq_some_iff.1 h
  rw [List.take_succ_eq_append_getElem hi, printV_snoc]
theorem printB_len {vs : List VarT} {nv : Nat} (hn : nm8 vs) : ∀ (l : List ST), prSs nv l → (printB vs l).length ≤ 64 * szSs l
  | [], _ => by simp [printB]
  | t :: r, h => by
    have i1 := printS_len hn t h.1
    have i2 := printB_len hn r h.2
    simp only [printB, szSs, List.length_cons, List.length_append]
    omega
theorem prSs_take {nv : Nat} : ∀ {l : List ST} (i : Nat), prSs nv l → prSs nv (l.take i)
  | [], i, _ => by simp [prSs]
  | x :: r, 0, _ => by simp [prSs]
  | x :: r, i + 1, h => by simp only [List.take_succ_cons]; exact ⟨h.1, prSs_take i h.2⟩
theorem prEs_take {nv : Nat} : ∀ {l : List ET} (i : Nat), prEs nv l → prEs nv (l.take i)
  | [], i, _ => by simp [prEs]
  | x :: r, 0, _ => by simp [prEs]
  | x :: r, i + 1, h => by simp only [List.take_succ_cons]; exact ⟨h.1, prEs_take i h.2⟩
end E
end Go.Proofs.YthbkcadiejfgaacGreatDoor

/- Rows of statements: the first ones; all cells of one; an append of nothing. -/
namespace Go.Proofs.YthbkcadiejfgaacGreatDoor
set_option maxRecDepth 20000
set_option maxHeartbeats 4000000
namespace E
open Go.Proofs

theorem StmtsV.take {F : Nat → Prop} {w : World} {a : Option Addr} {c : Nat} {l : List ST} (h : StmtsV F w (.slice a l.length c) l) {n : Nat} (hn : n ≤ l.length) : StmtsV F w (.slice a n c) (l.take n) := by
  obtain ⟨a', cap, cc, hv, hr, hc⟩ := h
  injection hv with h1 _ h2
  subst h1 h2
  have e : (l.take n).length = n := by simp; omega
  refine ⟨a, c, cc, by rw [e], fun h0 => ?_, fun i hi => ?_⟩
  · obtain ⟨b, q, ha, hF, hra⟩ := hr (by omega)
    exact ⟨b, q, ha, hF, fun i hi => hra i (by omega)⟩
  · rw [List.getElem_take]
    exact hc i (by omega)
theorem StmtsV.row {F : Nat → Prop} {w : World} {a : Option Addr} {c n : Nat} {l : List ST} (h : StmtsV F w (.slice a n c) l) : ∃ ccs : List (List Value), n = l.length ∧ ccs.length = l.length ∧ (∀ i (hi : i < l.length), StmtV F w (ccs.getD i []) (l[i]'hi)) ∧ (0 < l.length → ∃ b q, a = some ⟨b, q, none⟩ ∧ F b ∧ w.rangeAt b q ccs.flatten) := by
  obtain ⟨a', cap, cc, hv, hr, hc⟩ := h
  injection hv with h1 h3 h2
  subst h1 h2
  have hg : ∀ i, i < l.length → ((List.range l.length).map cc).getD i [] = cc i := fun i hi => by
    rw [List.getD_eq_getElem?_getD, List.getElem?_map, List.getElem?_range hi]
    rfl
  refine ⟨(List.range l.length).map cc, h3, by simp, fun i hi => by rw [hg i hi]; exact hc i hi, fun h0 => ?_⟩
  obtain ⟨b, q, ha, hF, hra⟩ := hr h0
  refine ⟨b, q, ha, hF, fun j u hu => ?_⟩
  have hu' : ((List.range l.length).flatMap cc)[j]? = some u := by rw [List.flatMap_def]; exact hu
  obtain ⟨p, h4, h5⟩ := flat_get (f := cc) (k := 12) (by decide) (fun p hp => (hc p (by simpa using hp)).length) hu'
  obtain ⟨h6, h7⟩ := List.getElem?_eq_some_iff.1 h4
  simp only [List.length_range] at h6
  simp only [List.getElem_range] at h7
  subst h7
  have := hra (j / 12) h6 (j % 12) u h5
  rwa [show q + j / 12 * 12 + j % 12 = q + j by omega] at this
theorem longSs_take : ∀ {l : List ST} (i : Nat), longSs l → longSs (l.take i)
  | [], i, _ => by simp [longSs]
  | x :: r, 0, _ => by simp [longSs]
  | x :: r, i + 1, h => by simp only [List.take_succ_cons]; exact ⟨h.1, longSs_take i h.2⟩
theorem opTo_appNo {P : Program} {n : Nat} {σ : Env} {o : Oper} {w : World} {t : TypeId} {s x : Operand} {a b : Option Addr} {c m d : Nat} {K : Value → World → Prop} (e size bytes : Nat)
    (ho : o.op = .call { callee := .builtin .append, args := #[s, x], argTypes := #[t, t] }) (hs : ev σ s = some (.slice b m d)) (hmd : m ≤ d) (hx : ev σ x = some (.slice a 0 c)) (hP : appOk P t e size bytes = true)
    (hK : K (.slice b m d) w) : OpTo P n σ o w K := by
  obtain ⟨i, z, hu, hi, hz, hsize, hby, hzs⟩ := appOk_run hP
  refine opTo_run (w' := w) (v := .slice b m d) (fun ac ha => ?_) hK
  have hr : (Builtin.append_ #[t, t] o.type #[.slice b m d, .slice a 0 c]).run P w = .ok (.slice b m d) w := by
    cases a <;> cases b <;> simp [Builtin.append_, run_underlying hu, sizeOf, typeInfo, hi, Builtin.lenOf, Builtin.firstCells, loadCells, loadCellsFrom, storeCells, hmd]
  simp [execOp, ho, resolve, invoke, builtin, ha.eval hs, ha.eval hx, hr]
end E
end Go.Proofs.YthbkcadiejfgaacGreatDoor

/- Contracts of the document's printing: numbers, an expression. -/
namespace Go.Proofs.YthbkcadiejfgaacGreatDoor
set_option maxRecDepth 20000
set_option maxHeartbeats 4000000
namespace E
open Go.Proofs

theorem itoaR_ret (v : Int) (h0 : -9223372036854775808 ≤ v) (h1 : v ≤ 9223372036854775807) {w : World} (hw : Lw w) : Ret Tryz.prog 26 [.int .i64 v] w fun r w' => r = .string (str (Lib.itoa v)) ∧ Keep [] w w' := by
  refine Calls.mono (Any.strconv_Itoa Tryz.laysM171 v h0 h1 w hw.tab) ?_
  rintro e w' ⟨rfl, k, os, rfl⟩
  exact ⟨_, rfl, rfl, keep_grow _ _ _⟩

theorem exprText_ret {vs : List VarT} (hn : nm8 vs) {av : Option Addr} {capv : Nat} {ab : Option Addr} {nb cb : Nat} : ∀ (s : Nat) (t : ET), szE t ≤ s → szE t ≤ 100000 → prE vs.length t → ∀ {F : Nat → Prop} {w : World} {cs : List Value}, VarsV F w (.slice av vs.length capv) vs → ExprV F w cs t → In F w → Lw w →
    Ret Tryz.prog 49 [.agg #[.slice av vs.length capv, .slice ab nb cb], .agg cs.toArray] w fun r w' => r = .string (str (printE vs t)) ∧ Keep [] w w' := by
  intro s
  induction s with
  | zero => intro t ht; have := szE_pos t; omega
  | succ s ih =>
    intro t ht ht3 hpr F w cs hv h hF hw
    obtain ⟨op, v, n, l⟩ := t
    obtain ⟨lv, rfl, hl⟩ := h.inv
    obtain ⟨a, ca, rfl⟩ := hl.form
    have hplen := printE_len hn _ hpr
    obtain ⟨hp1, hp2, hp3, hp4, hp5⟩ := hpr
    simp only [szE] at ht ht3 hplen
    have hlen := szEs_len l
    have hwl := wordT_len op.toNat
    have hil := Go.Lib.itoa_length_le n hp4.1 hp4.2
    have hnl := nameV_len hn v.toNat
    refine ret_of 57 Tryz.func49 rfl rfl (by simp) ?_
    (repeat (first | refine pl_pure hT rfl rfl rfl ?_ | refine pl_nil ?_ | refine rn_seq ?_ | refine rn_plain ?_ | refine rn_block ?_ | refine rn_inBlock ?_ | refine rn_skip ?_ | refine rn_true rfl ?_ | refine rn_false rfl ?_ | refine rn_exit rfl ?_ | refine pl_not rfl rfl ?_))
    refine pl_op rfl rfl (opTo_boxN [.slice av vs.length capv, .slice ab nb cb] rfl rfl rfl ?_)
    intro w1 x1 hx1 hs1 hk1 hX1'
    refine pl_op rfl rfl (opTo_boxN [.int .i64 op, .int .i64 v, .int .i64 n, .slice a l.length ca] rfl rfl rfl ?_)
    intro w2 x2 hx2 hs2 hk2 hX2
    have hX1 := hk2.blk hX1' (by simp)
    have hk := hk1.tr hk2
    have hw2 := hw.keep hk
    have hF2 := hF.keep hk
    have hv2 := hv.keep hk hF.stays
    have hl2 := hl.keep hk hF.stays
    clear hX1' hk1 hk2
    (repeat (first | refine pl_pure hT rfl rfl rfl ?_ | refine pl_nil ?_ | refine rn_seq ?_ | refine rn_plain ?_ | refine rn_block ?_ | refine rn_inBlock ?_ | refine rn_skip ?_ | refine rn_true rfl ?_ | refine rn_false rfl ?_ | refine rn_exit rfl ?_ | refine pl_not rfl rfl ?_))
    refine pl_val _ rfl rfl (val_load1 hT rfl rfl rfl (hX2.cell rfl)) ?_
    refine pl_op rfl rfl (opTo_call (fst := []) (cap := []) rfl rfl rfl rfl (by decide +kernel) ((wordR_ret op w2).mono ?_))
    rintro r w3 ⟨rfl, hk3⟩
    have ew : wordI op = wordT op.toNat := by unfold wordI; rw [if_pos ⟨hp1, hp2⟩]
    rw [ew]
    refine pl_val _ rfl rfl (val_add [40] _ rfl rfl rfl (by simp; omega) _) ?_
    obtain ⟨T1, hT1⟩ : ∃ T1, T1 = [40] ++ wordT op.toNat := ⟨_, rfl⟩
    rw [← hT1]
    have hl1 : T1.length ≤ 9 := by rw [hT1]; simp; omega
    (repeat (first | refine pl_pure hT rfl rfl rfl ?_ | refine pl_not rfl rfl ?_ | refine pl_nil ?_ | refine rn_inBlock ?_ | refine rn_skip ?_ | refine rn_true rfl ?_ | refine rn_false rfl ?_ | refine rn_exit rfl ?_))
    refine rn_seq ?_
    refine rn_with (fun σ' w' => ∃ T2, T2 = T1 ++ (if op = 1 then 32 :: Go.Lib.itoa n else []) ∧ Keep [] w2 w' ∧ Sub [(2, .pointer (some ⟨x1, 0, none⟩)), (3, .pointer (some ⟨x2, 0, none⟩)), (5, .string (str T2))] σ') ?_ ?_
    rotate_left
    · intro fin1
      refine rn_seq ?_
      refine rn_plain ?_
      (repeat (first | refine pl_pure hT rfl rfl rfl ?_ | refine pl_not rfl rfl ?_ | refine pl_nil ?_ | refine rn_inBlock ?_ | refine rn_skip ?_ | refine rn_true rfl ?_ | refine rn_false rfl ?_ | refine rn_exit rfl ?_))
      refine pl_val _ rfl rfl (val_load1 hT rfl rfl rfl ((hk3.blk hX2 (by simp)).cell rfl)) ?_
      by_cases h1 : op = 1
      · refine pl_yes rfl rfl rfl rfl rfl (by first | (simp only [cmpP]; omega) | (simp [cmpP]; done) | (simp [cmpP]; omega)) ?_
        (repeat (first | refine pl_pure hT rfl rfl rfl ?_ | refine pl_not rfl rfl ?_ | refine pl_nil ?_ | refine rn_inBlock ?_ | refine rn_skip ?_ | refine rn_true rfl ?_ | refine rn_false rfl ?_ | refine rn_exit rfl ?_))
        refine rn_plain ?_
        (repeat (first | refine pl_pure hT rfl rfl rfl ?_ | refine pl_not rfl rfl ?_ | refine pl_nil ?_ | refine rn_inBlock ?_ | refine rn_skip ?_ | refine rn_true rfl ?_ | refine rn_false rfl ?_ | refine rn_exit rfl ?_))
        refine pl_val _ rfl rfl (val_load1 hT rfl rfl rfl ((hk3.blk hX2 (by simp)).cell rfl)) ?_
        refine pl_op rfl rfl (opTo_call (fst := []) (cap := []) rfl rfl rfl rfl (by decide +kernel) ((formatInt_ret n hp4.1 hp4.2 (hw2.keep hk3)).mono ?_))
        rintro r w4 ⟨rfl, hk4⟩
        refine pl_val _ rfl rfl (val_add [32] _ rfl rfl rfl (by simp; omega) _) ?_
        refine pl_val _ rfl rfl (val_add T1 _ rfl rfl rfl (by simp; omega) _) ?_
        (repeat (first | refine pl_pure hT rfl rfl rfl ?_ | refine pl_not rfl rfl ?_ | refine pl_nil ?_ | refine rn_inBlock ?_ | refine rn_skip ?_ | refine rn_true rfl ?_ | refine rn_false rfl ?_ | refine rn_exit rfl ?_))
        exact fin1 _ _ ⟨_, by rw [if_pos h1]; rfl, hk3.tr hk4, rfl, rfl, rfl, trivial⟩
      · refine pl_no rfl rfl rfl rfl rfl rfl (by first | (simp only [cmpP]; omega) | (simp [cmpP]; done) | (simp [cmpP]; omega)) ?_
        (repeat (first | refine pl_pure hT rfl rfl rfl ?_ | refine pl_not rfl rfl ?_ | refine pl_nil ?_ | refine rn_inBlock ?_ | refine rn_skip ?_ | refine rn_true rfl ?_ | refine rn_false rfl ?_ | refine rn_exit rfl ?_))
        exact fin1 _ _ ⟨T1, by rw [if_neg h1, List.append_nil], hk3, rfl, rfl, rfl, trivial⟩
    rintro σ' w4 ⟨T2, hT2, hk4, hsub⟩
    refine rn_sub hsub ?_
    have hl2' : T2.length ≤ 31 := by rw [hT2]; split <;> simp <;> omega
    (repeat (first | refine pl_pure hT rfl rfl rfl ?_ | refine pl_not rfl rfl ?_ | refine pl_nil ?_ | refine rn_inBlock ?_ | refine rn_skip ?_ | refine rn_true rfl ?_ | refine rn_false rfl ?_ | refine rn_exit rfl ?_))
    refine rn_seq ?_
    refine rn_with (fun σ' w' => ∃ T3, T3 = T2 ++ (if op = 2 ∨ op = 3 then 32 :: nameV vs v.toNat else []) ∧ Keep [] w2 w' ∧ Sub [(2, .pointer (some ⟨x1, 0, none⟩)), (3, .pointer (some ⟨x2, 0, none⟩)), (5, .string (str T3))] σ') ?_ ?_
    rotate_left
    · intro fin2
      refine rn_seq ?_
      refine rn_plain ?_
      (repeat (first | refine pl_pure hT rfl rfl rfl ?_ | refine pl_not rfl rfl ?_ | refine pl_nil ?_ | refine rn_inBlock ?_ | refine rn_skip ?_ | refine rn_true rfl ?_ | refine rn_false rfl ?_ | refine rn_exit rfl ?_))
      refine pl_val _ rfl rfl (val_load1 hT rfl rfl rfl ((hk4.blk hX2 (by simp)).cell rfl)) ?_
      by_cases h23 : op = 2 ∨ op = 3
      · obtain ⟨hv0, hvn⟩ := hp3 h23
        have hget : vs[v.toNat]? = some (vs[v.toNat]'hvn) := List.getElem?_eq_getElem hvn
        obtain ⟨bb, q, cap', hv', hFb, hra⟩ := hv2.at hget
        cases hv'
        have enm : (vs[v.toNat]'hvn).1 = str (nameV vs v.toNat) := by
          unfold nameV
          rw [List.getD_eq_getElem?_getD, hget, Option.getD_some, str_data]
        by_cases h2 : op = 2
        · refine pl_yes rfl rfl rfl rfl rfl (by first | (simp only [cmpP]; omega) | (simp [cmpP]; done) | (simp [cmpP]; omega)) ?_
          (repeat (first | refine pl_pure hT rfl rfl rfl ?_ | refine pl_not rfl rfl ?_ | refine pl_nil ?_ | refine rn_inBlock ?_ | refine rn_skip ?_ | refine rn_true rfl ?_ | refine rn_false rfl ?_ | refine rn_exit rfl ?_))
          refine rn_plain ?_
          (repeat (first | refine pl_pure hT rfl rfl rfl ?_ | refine pl_not rfl rfl ?_ | refine pl_nil ?_ | refine rn_inBlock ?_ | refine rn_skip ?_ | refine rn_true rfl ?_ | refine rn_false rfl ?_ | refine rn_exit rfl ?_))
          refine pl_val _ rfl rfl (val_load1 hT rfl rfl rfl ((hk4.blk hX1 (by simp)).cell rfl)) ?_
          (repeat (first | refine pl_pure hT rfl rfl rfl ?_ | refine pl_not rfl rfl ?_ | refine pl_nil ?_ | refine rn_inBlock ?_ | refine rn_skip ?_ | refine rn_true rfl ?_ | refine rn_false rfl ?_ | refine rn_exit rfl ?_))
          refine pl_val _ rfl rfl (val_load1 hT rfl rfl rfl ((hk4.blk hX2 (by simp)).cell rfl)) ?_
          refine pl_val _ rfl rfl (val_index v.toNat hT rfl rfl rfl rfl (by omega) hvn _) ?_
          (repeat (first | refine pl_pure hT rfl rfl rfl ?_ | refine pl_not rfl rfl ?_ | refine pl_nil ?_ | refine rn_inBlock ?_ | refine rn_skip ?_ | refine rn_true rfl ?_ | refine rn_false rfl ?_ | refine rn_exit rfl ?_))
          refine pl_val _ rfl rfl (val_load1 hT rfl rfl rfl ((range_keep hra hk4 (hF2 _ hFb) (by simp)) 0 (.string (vs[v.toNat]'hvn).1) rfl)) ?_
          rw [enm]
          refine pl_val _ rfl rfl (val_add [32] _ rfl rfl rfl (by simp; omega) _) ?_
          refine pl_val _ rfl rfl (val_add T2 _ rfl rfl rfl (by simp; omega) _) ?_
          (repeat (first | refine pl_pure hT rfl rfl rfl ?_ | refine pl_not rfl rfl ?_ | refine pl_nil ?_ | refine rn_inBlock ?_ | refine rn_skip ?_ | refine rn_true rfl ?_ | refine rn_false rfl ?_ | refine rn_exit rfl ?_))
          exact fin2 _ _ ⟨_, by rw [if_pos h23]; rfl, hk4, rfl, rfl, rfl, trivial⟩
        · refine pl_no rfl rfl rfl rfl rfl rfl (by first | (simp only [cmpP]; omega) | (simp [cmpP]; done) | (simp [cmpP]; omega)) ?_
          (repeat (first | refine pl_pure hT rfl rfl rfl ?_ | refine pl_not rfl rfl ?_ | refine pl_nil ?_ | refine rn_inBlock ?_ | refine rn_skip ?_ | refine rn_true rfl ?_ | refine rn_false rfl ?_ | refine rn_exit rfl ?_))
          refine pl_val _ rfl rfl (val_load1 hT rfl rfl rfl ((hk4.blk hX2 (by simp)).cell rfl)) ?_
          refine pl_yes rfl rfl rfl rfl rfl (by first | (simp only [cmpP]; omega) | (simp [cmpP]; done) | (simp [cmpP]; omega)) ?_
          (repeat (first | refine pl_pure hT rfl rfl rfl ?_ | refine pl_not rfl rfl ?_ | refine pl_nil ?_ | refine rn_inBlock ?_ | refine rn_skip ?_ | refine rn_true rfl ?_ | refine rn_false rfl ?_ | refine rn_exit rfl ?_))
          refine rn_plain ?_
          (repeat (first | refine pl_pure hT rfl rfl rfl ?_ | refine pl_not rfl rfl ?_ | refine pl_nil ?_ | refine rn_inBlock ?_ | refine rn_skip ?_ | refine rn_true rfl ?_ | refine rn_false rfl ?_ | refine rn_exit rfl ?_))
          refine pl_val _ rfl rfl (val_load1 hT rfl rfl rfl ((hk4.blk hX1 (by simp)).cell rfl)) ?_
          (repeat (first | refine pl_pure hT rfl rfl rfl ?_ | refine pl_not rfl rfl ?_ | refine pl_nil ?_ | refine rn_inBlock ?_ | refine rn_skip ?_ | refine rn_true rfl ?_ | refine rn_false rfl ?_ | refine rn_exit rfl ?_))
          refine pl_val _ rfl rfl (val_load1 hT rfl rfl rfl ((hk4.blk hX2 (by simp)).cell rfl)) ?_
          refine pl_val _ rfl rfl (val_index v.toNat hT rfl rfl rfl rfl (by omega) hvn _) ?_
          (repeat (first | refine pl_pure hT rfl rfl rfl ?_ | refine pl_not rfl rfl ?_ | refine pl_nil ?_ | refine rn_inBlock ?_ | refine rn_skip ?_ | refine rn_true rfl ?_ | refine rn_false rfl ?_ | refine rn_exit rfl ?_))
          refine pl_val _ rfl rfl (val_load1 hT rfl rfl rfl ((range_keep hra hk4 (hF2 _ hFb) (by simp)) 0 (.string (vs[v.toNat]'hvn).1) rfl)) ?_
          rw [enm]
          refine pl_val _ rfl rfl (val_add [32] _ rfl rfl rfl (by simp; omega) _) ?_
          refine pl_val _ rfl rfl (val_add T2 _ rfl rfl rfl (by simp; omega) _) ?_
          (repeat (first | refine pl_pure hT rfl rfl rfl ?_ | refine pl_not rfl rfl ?_ | refine pl_nil ?_ | refine rn_inBlock ?_ | refine rn_skip ?_ | refine rn_true rfl ?_ | refine rn_false rfl ?_ | refine rn_exit rfl ?_))
          exact fin2 _ _ ⟨_, by rw [if_pos h23]; rfl, hk4, rfl, rfl, rfl, trivial⟩
      · refine pl_no rfl rfl rfl rfl rfl rfl (by first | (simp only [cmpP]; omega) | (simp [cmpP]; done) | (simp [cmpP]; omega)) ?_
        (repeat (first | refine pl_pure hT rfl rfl rfl ?_ | refine pl_not rfl rfl ?_ | refine pl_nil ?_ | refine rn_inBlock ?_ | refine rn_skip ?_ | refine rn_true rfl ?_ | refine rn_false rfl ?_ | refine rn_exit rfl ?_))
        refine pl_val _ rfl rfl (val_load1 hT rfl rfl rfl ((hk4.blk hX2 (by simp)).cell rfl)) ?_
        refine pl_no rfl rfl rfl rfl rfl rfl (by first | (simp only [cmpP]; omega) | (simp [cmpP]; done) | (simp [cmpP]; omega)) ?_
        (repeat (first | refine pl_pure hT rfl rfl rfl ?_ | refine pl_not rfl rfl ?_ | refine pl_nil ?_ | refine rn_inBlock ?_ | refine rn_skip ?_ | refine rn_true rfl ?_ | refine rn_false rfl ?_ | refine rn_exit rfl ?_))
        exact fin2 _ _ ⟨T2, by rw [if_neg h23, List.append_nil], hk4, rfl, rfl, rfl, trivial⟩
    rintro σ' w5 ⟨T3, hT3, hk5, hsub⟩
    refine rn_sub hsub ?_
    have hl3 : T3.length ≤ 41 := by rw [hT3]; split <;> simp <;> omega
    have hpes := printEs_len hn l hp5
    (repeat (first | refine pl_pure hT rfl rfl rfl ?_ | refine pl_nil ?_ | refine rn_seq ?_ | refine rn_plain ?_ | refine rn_block ?_ | refine rn_inBlock ?_ | refine rn_skip ?_ | refine rn_true rfl ?_ | refine rn_false rfl ?_ | refine rn_exit rfl ?_ | refine pl_not rfl rfl ?_))
    refine rn_ind (fun m σ w' => ∃ i : Nat, i ≤ l.length ∧ m = l.length - i ∧ σ = [(2, .pointer (some ⟨x1, 0, none⟩)), (3, .pointer (some ⟨x2, 0, none⟩)), (5, .string (str (T3 ++ printEs vs (l.take i)))), (6, .int .i64 (i : Nat))] ∧ Keep [] w2 w') l.length _ ?_ ⟨0, by omega, by omega, rfl, hk5⟩ ?_
    · have e0 : T3 ++ printEs vs (l.take 0) = T3 := by simp [printEs]
      exact ⟨rfl, rfl, by rw [e0]; rfl, rfl, trivial⟩
    rintro m σ w6 ih2 ⟨i, hi, rfl, rfl, hk6⟩
    (repeat (first | refine pl_pure hT rfl rfl rfl ?_ | refine pl_nil ?_ | refine rn_seq ?_ | refine rn_plain ?_ | refine rn_block ?_ | refine rn_inBlock ?_ | refine rn_skip ?_ | refine rn_true rfl ?_ | refine rn_false rfl ?_ | refine rn_exit rfl ?_ | refine pl_not rfl rfl ?_))
    refine pl_val _ rfl rfl (val_load1 hT rfl rfl rfl ((hk6.blk hX2 (by simp)).cell rfl)) ?_
    (repeat (first | refine pl_pure hT rfl rfl rfl ?_ | refine pl_nil ?_ | refine rn_seq ?_ | refine rn_plain ?_ | refine rn_block ?_ | refine rn_inBlock ?_ | refine rn_skip ?_ | refine rn_true rfl ?_ | refine rn_false rfl ?_ | refine rn_exit rfl ?_ | refine pl_not rfl rfl ?_))
    by_cases hlt : i < l.length
    · refine pl_yes rfl rfl rfl rfl rfl (by first | (simp only [cmpP]; omega) | (simp [cmpP]; done) | (simp [cmpP]; omega)) ?_
      (repeat (first | refine pl_pure hT rfl rfl rfl ?_ | refine pl_nil ?_ | refine rn_seq ?_ | refine rn_plain ?_ | refine rn_block ?_ | refine rn_inBlock ?_ | refine rn_skip ?_ | refine rn_true rfl ?_ | refine rn_false rfl ?_ | refine rn_exit rfl ?_ | refine pl_not rfl rfl ?_))
      have hx : l[i]? = some l[i] := List.getElem?_eq_getElem hlt
      have hsz := szEs_at hx
      have hpi := prEs_at hp5 hx
      have hpl := printE_len hn _ hpi
      have htk := printEs_take vs hx
      have hpt := printEs_len hn _ (prEs_take i hp5)
      have hst := szEs_take l i
      obtain ⟨b1, q1, _, ci, hv1, hF1, hr1, hc1⟩ := hl2.at hx
      cases hv1
      refine rn_draw (fun w' => Keep [] w6 w') [] hMix ?_
      have hS : Keep [] w6 w6.drew := (Keep.refl _ _).drew
      generalize w6.drew = w7 at *
      refine dr_pure 0 hT rfl (by decide +kernel) rfl rfl rfl ?_
      refine dr_val 1 (.agg #[.slice av vs.length capv, .slice ab nb cb]) rfl (by decide +kernel) rfl rfl (fun w9 hS9 => val_load [.slice av vs.length capv, .slice ab nb cb] hT rfl rfl rfl (((hk6.tr hS9).blk hX1 (by simp)).range (by rfl))) hS ?_
      refine dr_pure 2 hT rfl (by decide +kernel) rfl rfl rfl ?_
      refine dr_val 3 _ rfl (by decide +kernel) rfl rfl (fun w9 hS9 => val_load1 hT rfl rfl rfl (((hk6.tr hS9).blk hX2 (by simp)).cell rfl)) hS ?_
      refine dr_pure 4 hT rfl (by decide +kernel) rfl rfl rfl ?_
      refine dr_any 5 _ rfl (by decide +kernel) rfl rfl (fun w => val_index i hT rfl rfl rfl rfl rfl hlt w) ?_
      refine dr_val 6 (.agg ci.toArray) rfl (by decide +kernel) rfl rfl (fun w9 hS9 => val_load ci hT rfl rfl (by rw [hc1.length]; rfl) (range_keep hr1 (hk6.tr hS9) (hF2 _ hF1) (by simp))) hS ?_
      refine dr_op 7 rfl (by decide +kernel) rfl rfl (opTo_call rfl rfl rfl rfl (by decide +kernel) ((ih l[i] (by omega) (by omega) hpi (hv2.keep (hk6.tr hS) hF2.stays) (hc1.keep (hk6.tr hS) hF2.stays) (hF2.keep (hk6.tr hS)) (hw2.keep (hk6.tr hS))).mono ?_))
      rintro v8 w8 ⟨rfl, hk8⟩
      refine ⟨fun _ => hS.tr hk8, ?_⟩
      refine dr_any 8 _ rfl (by decide +kernel) rfl rfl (fun w => val_add [32] _ rfl rfl rfl (by simp; omega) w) ?_
      refine dr_any 9 _ rfl (by decide +kernel) rfl rfl (fun w => val_add (T3 ++ printEs vs (l.take i)) _ rfl rfl rfl (by simp; omega) w) ?_
      refine dr_pure 10 hT rfl (by decide +kernel) rfl rfl rfl ?_
      refine dr_done (by decide +kernel) ?_
      have hk68 := (hk6.tr hS).tr hk8
      (repeat (first | refine pl_pure hT rfl rfl rfl ?_ | refine pl_nil ?_ | refine rn_seq ?_ | refine rn_plain ?_ | refine rn_block ?_ | refine rn_inBlock ?_ | refine rn_skip ?_ | refine rn_true rfl ?_ | refine rn_false rfl ?_ | refine rn_exit rfl ?_ | refine pl_not rfl rfl ?_))
      refine pl_num (((i + 1 : Nat) : Int)) rfl rfl rfl rfl rfl (by simp only [ariP]; omega) ?_
      (repeat (first | refine pl_pure hT rfl rfl rfl ?_ | refine pl_nil ?_ | refine rn_seq ?_ | refine rn_plain ?_ | refine rn_block ?_ | refine rn_inBlock ?_ | refine rn_skip ?_ | refine rn_true rfl ?_ | refine rn_false rfl ?_ | refine rn_exit rfl ?_ | refine pl_not rfl rfl ?_))
      refine rn_sub ?_ (ih2 (l.length - (i + 1)) [(2, .pointer (some ⟨x1, 0, none⟩)), (3, .pointer (some ⟨x2, 0, none⟩)), (5, .string (str (T3 ++ printEs vs (l.take (i + 1))))), (6, .int .i64 ((i + 1 : Nat) : Int))] w8 (by omega) ⟨i + 1, by omega, rfl, rfl, hk68⟩)
      rw [htk, ← List.append_assoc]
      exact ⟨rfl, rfl, rfl, rfl, trivial⟩
    · refine pl_no rfl rfl rfl rfl rfl rfl (by first | (simp only [cmpP]; omega) | (simp [cmpP]; done) | (simp [cmpP]; omega)) ?_
      (repeat (first | refine pl_pure hT rfl rfl rfl ?_ | refine pl_nil ?_ | refine rn_seq ?_ | refine rn_plain ?_ | refine rn_block ?_ | refine rn_inBlock ?_ | refine rn_skip ?_ | refine rn_true rfl ?_ | refine rn_false rfl ?_ | refine rn_exit rfl ?_ | refine pl_not rfl rfl ?_))
      rw [List.take_of_length_le (by omega)]
      refine pl_val _ rfl rfl (val_add (T3 ++ printEs vs l) [41] rfl rfl rfl (by simp; omega) _) ?_
      (repeat (first | refine pl_pure hT rfl rfl rfl ?_ | refine pl_nil ?_ | refine rn_seq ?_ | refine rn_plain ?_ | refine rn_block ?_ | refine rn_inBlock ?_ | refine rn_skip ?_ | refine rn_true rfl ?_ | refine rn_false rfl ?_ | refine rn_exit rfl ?_ | refine pl_not rfl rfl ?_))
      refine rn_ret Tryz.func49 (.inl ⟨_, rfl, rfl⟩) ⟨?_, hk.tr hk6⟩
      rw [hT3, hT2, hT1]
      congr 2
      simp only [printE, List.append_assoc, List.cons_append, List.nil_append]
end E
end Go.Proofs.YthbkcadiejfgaacGreatDoor

/- Contracts of the document's functions that go through a program's trees: how many parts, and whether it is great. -/
namespace Go.Proofs.YthbkcadiejfgaacGreatDoor
set_option maxRecDepth 20000
set_option maxHeartbeats 4000000
namespace E
open Go.Proofs


end E
end Go.Proofs.YthbkcadiejfgaacGreatDoor

/- Contracts of package code's smallest functions: what a kind has, what a name is. -/
namespace Go.Proofs.YthbkcadiejfgaacGreatDoor
set_option maxRecDepth 20000
set_option maxHeartbeats 4000000
namespace E
open Go.Proofs

theorem parts_ret (op : Int) (w : World) : Ret Tryz.prog 100 [.int .i64 op] w fun v w' => v = .int .i64 (partsOf op) ∧ w' = w := by
  refine ret_of 20 Tryz.func100 rfl rfl (by simp) ?_
  have h : op < 1 ∨ op > 8 ∨ op = 1 ∨ op = 2 ∨ op = 3 ∨ (4 ≤ op ∧ op ≤ 8) := by omega
  rcases h with h | h | h | h | h | h <;> ((repeat (first | refine pl_pure hT rfl rfl rfl ?_ | refine pl_nil ?_ | refine rn_seq ?_ | refine rn_plain ?_ | refine rn_block ?_ | refine rn_inBlock ?_ | refine rn_skip ?_ | refine rn_true rfl ?_ | refine rn_false rfl ?_ | refine rn_exit rfl ?_ | refine pl_not rfl rfl ?_ | refine pl_val _ rfl rfl (val_load1 hT rfl rfl rfl (Blk.cell (by assumption) (by rfl))) ?_ | refine pl_yes rfl rfl rfl rfl rfl (by first | (simp only [cmpP]; omega) | (simp [cmpP]; done) | (simp [cmpP]; omega)) ?_ | refine pl_no rfl rfl rfl rfl rfl rfl (by first | (simp only [cmpP]; omega) | (simp [cmpP]; done) | (simp [cmpP]; omega)) ?_)); refine rn_ret Tryz.func100 (.inl ⟨_, rfl, rfl⟩) ⟨?_, rfl⟩; congr 1; (unfold partsOf; repeat' split) <;> omega)

def hasV (op : Int) : Value := .tuple #[.bool (needE op), .bool (needF op), .bool (needV op), .bool (needB op), .bool (needO op)]

theorem has_ret (op : Int) (w : World) : Ret Tryz.prog 83 [.int .i64 op] w fun v w' => v = hasV op ∧ w' = w := by
  refine ret_of 20 Tryz.func83 rfl rfl (by simp) ?_
  have h : op = 1 ∨ op = 2 ∨ op = 3 ∨ op = 4 ∨ op = 5 ∨ op = 6 ∨ (op ≠ 1 ∧ op ≠ 2 ∧ op ≠ 3 ∧ op ≠ 4 ∧ op ≠ 5 ∧ op ≠ 6) := by omega
  rcases h with h | h | h | h | h | h | h
  · subst h; (repeat (first | refine pl_pure hT rfl rfl rfl ?_ | refine pl_nil ?_ | refine rn_seq ?_ | refine rn_plain ?_ | refine rn_block ?_ | refine rn_inBlock ?_ | refine rn_skip ?_ | refine rn_true rfl ?_ | refine rn_false rfl ?_ | refine rn_exit rfl ?_ | refine pl_not rfl rfl ?_ | refine pl_val _ rfl rfl (val_load1 hT rfl rfl rfl (Blk.cell (by assumption) (by rfl))) ?_ | refine pl_yes rfl rfl rfl rfl rfl (by first | (simp only [cmpP]; omega) | (simp [cmpP]; done) | (simp [cmpP]; omega)) ?_ | refine pl_no rfl rfl rfl rfl rfl rfl (by first | (simp only [cmpP]; omega) | (simp [cmpP]; done) | (simp [cmpP]; omega)) ?_)); exact rn_ret5 Tryz.func83 rfl rfl rfl rfl rfl rfl ⟨rfl, rfl⟩
  · subst h; (repeat (first | refine pl_pure hT rfl rfl rfl ?_ | refine pl_nil ?_ | refine rn_seq ?_ | refine rn_plain ?_ | refine rn_block ?_ | refine rn_inBlock ?_ | refine rn_skip ?_ | refine rn_true rfl ?_ | refine rn_false rfl ?_ | refine rn_exit rfl ?_ | refine pl_not rfl rfl ?_ | refine pl_val _ rfl rfl (val_load1 hT rfl rfl rfl (Blk.cell (by assumption) (by rfl))) ?_ | refine pl_yes rfl rfl rfl rfl rfl (by first | (simp only [cmpP]; omega) | (simp [cmpP]; done) | (simp [cmpP]; omega)) ?_ | refine pl_no rfl rfl rfl rfl rfl rfl (by first | (simp only [cmpP]; omega) | (simp [cmpP]; done) | (simp [cmpP]; omega)) ?_)); exact rn_ret5 Tryz.func83 rfl rfl rfl rfl rfl rfl ⟨rfl, rfl⟩
  · subst h; (repeat (first | refine pl_pure hT rfl rfl rfl ?_ | refine pl_nil ?_ | refine rn_seq ?_ | refine rn_plain ?_ | refine rn_block ?_ | refine rn_inBlock ?_ | refine rn_skip ?_ | refine rn_true rfl ?_ | refine rn_false rfl ?_ | refine rn_exit rfl ?_ | refine pl_not rfl rfl ?_ | refine pl_val _ rfl rfl (val_load1 hT rfl rfl rfl (Blk.cell (by assumption) (by rfl))) ?_ | refine pl_yes rfl rfl rfl rfl rfl (by first | (simp only [cmpP]; omega) | (simp [cmpP]; done) | (simp [cmpP]; omega)) ?_ | refine pl_no rfl rfl rfl rfl rfl rfl (by first | (simp only [cmpP]; omega) | (simp [cmpP]; done) | (simp [cmpP]; omega)) ?_)); exact rn_ret5 Tryz.func83 rfl rfl rfl rfl rfl rfl ⟨rfl, rfl⟩
  · subst h; (repeat (first | refine pl_pure hT rfl rfl rfl ?_ | refine pl_nil ?_ | refine rn_seq ?_ | refine rn_plain ?_ | refine rn_block ?_ | refine rn_inBlock ?_ | refine rn_skip ?_ | refine rn_true rfl ?_ | refine rn_false rfl ?_ | refine rn_exit rfl ?_ | refine pl_not rfl rfl ?_ | refine pl_val _ rfl rfl (val_load1 hT rfl rfl rfl (Blk.cell (by assumption) (by rfl))) ?_ | refine pl_yes rfl rfl rfl rfl rfl (by first | (simp only [cmpP]; omega) | (simp [cmpP]; done) | (simp [cmpP]; omega)) ?_ | refine pl_no rfl rfl rfl rfl rfl rfl (by first | (simp only [cmpP]; omega) | (simp [cmpP]; done) | (simp [cmpP]; omega)) ?_)); exact rn_ret5 Tryz.func83 rfl rfl rfl rfl rfl rfl ⟨rfl, rfl⟩
  · subst h; (repeat (first | refine pl_pure hT rfl rfl rfl ?_ | refine pl_nil ?_ | refine rn_seq ?_ | refine rn_plain ?_ | refine rn_block ?_ | refine rn_inBlock ?_ | refine rn_skip ?_ | refine rn_true rfl ?_ | refine rn_false rfl ?_ | refine rn_exit rfl ?_ | refine pl_not rfl rfl ?_ | refine pl_val _ rfl rfl (val_load1 hT rfl rfl rfl (Blk.cell (by assumption) (by rfl))) ?_ | refine pl_yes rfl rfl rfl rfl rfl (by first | (simp only [cmpP]; omega) | (simp [cmpP]; done) | (simp [cmpP]; omega)) ?_ | refine pl_no rfl rfl rfl rfl rfl rfl (by first | (simp only [cmpP]; omega) | (simp [cmpP]; done) | (simp [cmpP]; omega)) ?_)); exact rn_ret5 Tryz.func83 rfl rfl rfl rfl rfl rfl ⟨rfl, rfl⟩
  · subst h; (repeat (first | refine pl_pure hT rfl rfl rfl ?_ | refine pl_nil ?_ | refine rn_seq ?_ | refine rn_plain ?_ | refine rn_block ?_ | refine rn_inBlock ?_ | refine rn_skip ?_ | refine rn_true rfl ?_ | refine rn_false rfl ?_ | refine rn_exit rfl ?_ | refine pl_not rfl rfl ?_ | refine pl_val _ rfl rfl (val_load1 hT rfl rfl rfl (Blk.cell (by assumption) (by rfl))) ?_ | refine pl_yes rfl rfl rfl rfl rfl (by first | (simp only [cmpP]; omega) | (simp [cmpP]; done) | (simp [cmpP]; omega)) ?_ | refine pl_no rfl rfl rfl rfl rfl rfl (by first | (simp only [cmpP]; omega) | (simp [cmpP]; done) | (simp [cmpP]; omega)) ?_)); exact rn_ret5 Tryz.func83 rfl rfl rfl rfl rfl rfl ⟨rfl, rfl⟩
  · (repeat (first | refine pl_pure hT rfl rfl rfl ?_ | refine pl_nil ?_ | refine rn_seq ?_ | refine rn_plain ?_ | refine rn_block ?_ | refine rn_inBlock ?_ | refine rn_skip ?_ | refine rn_true rfl ?_ | refine rn_false rfl ?_ | refine rn_exit rfl ?_ | refine pl_not rfl rfl ?_ | refine pl_val _ rfl rfl (val_load1 hT rfl rfl rfl (Blk.cell (by assumption) (by rfl))) ?_ | refine pl_yes rfl rfl rfl rfl rfl (by first | (simp only [cmpP]; omega) | (simp [cmpP]; done) | (simp [cmpP]; omega)) ?_ | refine pl_no rfl rfl rfl rfl rfl rfl (by first | (simp only [cmpP]; omega) | (simp [cmpP]; done) | (simp [cmpP]; omega)) ?_))
    refine rn_ret5 Tryz.func83 rfl rfl rfl rfl rfl rfl ⟨?_, rfl⟩
    simp [hasV, needE, needF, needV, needB, needO, h]

theorem str_at {s : ByteArray} {j : Nat} (h : j < s.size) : s[j]? = some (s.data.toList[j]'(by simpa using h)) := by
  rw [getElem?_pos s j h]
  rfl

theorem all_take_succ {l : List UInt8} {i : Nat} (h : i < l.length) : (l.take (i + 1)).all letter = ((l.take i).all letter && letter l[i]) := by
  rw [List.take_succ_eq_append_getElem h, List.all_append]
  simp only [List.all_cons, List.all_nil, Bool.and_true]
theorem all_take_false {l : List UInt8} {i : Nat} (h : i < l.length) (hl : letter l[i] = false) : l.all letter = false := by
  rw [List.all_eq_false]
  exact ⟨l[i], List.getElem_mem h, by simp [hl]⟩

theorem name_ret (s : ByteArray) (w : World) : Ret Tryz.prog 65 [.string s] w fun v w' => v = .bool (nameOk s) ∧ w' = w := by
  refine ret_of 28 Tryz.func65 rfl rfl (by simp) ?_
  (repeat (first | refine pl_pure hT rfl rfl rfl ?_ | refine pl_nil ?_ | refine rn_seq ?_ | refine rn_plain ?_ | refine rn_block ?_ | refine rn_inBlock ?_ | refine rn_skip ?_ | refine rn_true rfl ?_ | refine rn_false rfl ?_ | refine rn_exit rfl ?_ | refine pl_not rfl rfl ?_))
  refine pl_val _ rfl rfl (val_strLen s (by decide +kernel) rfl rfl w) ?_
  by_cases h1 : s.size < 1
  · (repeat (first | refine pl_pure hT rfl rfl rfl ?_ | refine pl_nil ?_ | refine rn_seq ?_ | refine rn_plain ?_ | refine rn_block ?_ | refine rn_inBlock ?_ | refine rn_skip ?_ | refine rn_true rfl ?_ | refine rn_false rfl ?_ | refine rn_exit rfl ?_ | refine pl_not rfl rfl ?_ | refine pl_val _ rfl rfl (val_load1 hT rfl rfl rfl (Blk.cell (by assumption) (by rfl))) ?_ | refine pl_yes rfl rfl rfl rfl rfl (by first | (simp only [cmpP]; omega) | (simp [cmpP]; done) | (simp [cmpP]; omega)) ?_ | refine pl_no rfl rfl rfl rfl rfl rfl (by first | (simp only [cmpP]; omega) | (simp [cmpP]; done) | (simp [cmpP]; omega)) ?_))
    refine rn_ret Tryz.func65 (.inl ⟨_, rfl, rfl⟩) ⟨?_, rfl⟩
    have : ¬ 1 ≤ s.size := by omega
    simp [nameOk, this]
  · (repeat (first | refine pl_pure hT rfl rfl rfl ?_ | refine pl_nil ?_ | refine rn_seq ?_ | refine rn_plain ?_ | refine rn_block ?_ | refine rn_inBlock ?_ | refine rn_skip ?_ | refine rn_true rfl ?_ | refine rn_false rfl ?_ | refine rn_exit rfl ?_ | refine pl_not rfl rfl ?_ | refine pl_val _ rfl rfl (val_load1 hT rfl rfl rfl (Blk.cell (by assumption) (by rfl))) ?_ | refine pl_yes rfl rfl rfl rfl rfl (by first | (simp only [cmpP]; omega) | (simp [cmpP]; done) | (simp [cmpP]; omega)) ?_ | refine pl_no rfl rfl rfl rfl rfl rfl (by first | (simp only [cmpP]; omega) | (simp [cmpP]; done) | (simp [cmpP]; omega)) ?_))
    refine pl_val _ rfl rfl (val_strLen s (by decide +kernel) rfl rfl w) ?_
    by_cases h2 : s.size > 8
    · (repeat (first | refine pl_pure hT rfl rfl rfl ?_ | refine pl_nil ?_ | refine rn_seq ?_ | refine rn_plain ?_ | refine rn_block ?_ | refine rn_inBlock ?_ | refine rn_skip ?_ | refine rn_true rfl ?_ | refine rn_false rfl ?_ | refine rn_exit rfl ?_ | refine pl_not rfl rfl ?_ | refine pl_val _ rfl rfl (val_load1 hT rfl rfl rfl (Blk.cell (by assumption) (by rfl))) ?_ | refine pl_yes rfl rfl rfl rfl rfl (by first | (simp only [cmpP]; omega) | (simp [cmpP]; done) | (simp [cmpP]; omega)) ?_ | refine pl_no rfl rfl rfl rfl rfl rfl (by first | (simp only [cmpP]; omega) | (simp [cmpP]; done) | (simp [cmpP]; omega)) ?_))
      refine rn_ret Tryz.func65 (.inl ⟨_, rfl, rfl⟩) ⟨?_, rfl⟩
      have : ¬ s.size ≤ 8 := by omega
      simp [nameOk, this]
    · (repeat (first | refine pl_pure hT rfl rfl rfl ?_ | refine pl_nil ?_ | refine rn_seq ?_ | refine rn_plain ?_ | refine rn_block ?_ | refine rn_inBlock ?_ | refine rn_skip ?_ | refine rn_true rfl ?_ | refine rn_false rfl ?_ | refine rn_exit rfl ?_ | refine pl_not rfl rfl ?_ | refine pl_val _ rfl rfl (val_load1 hT rfl rfl rfl (Blk.cell (by assumption) (by rfl))) ?_ | refine pl_yes rfl rfl rfl rfl rfl (by first | (simp only [cmpP]; omega) | (simp [cmpP]; done) | (simp [cmpP]; omega)) ?_ | refine pl_no rfl rfl rfl rfl rfl rfl (by first | (simp only [cmpP]; omega) | (simp [cmpP]; done) | (simp [cmpP]; omega)) ?_))
      refine pl_val _ rfl rfl (val_strLen s (by decide +kernel) rfl rfl w) ?_
      (repeat (first | refine pl_pure hT rfl rfl rfl ?_ | refine pl_nil ?_ | refine rn_seq ?_ | refine rn_plain ?_ | refine rn_block ?_ | refine rn_inBlock ?_ | refine rn_skip ?_ | refine rn_true rfl ?_ | refine rn_false rfl ?_ | refine rn_exit rfl ?_ | refine pl_not rfl rfl ?_))
      have hsz : s.data.toList.length = s.size := by simp
      refine rn_ind (fun m σ w' => ∃ i : Nat, i ≤ s.size ∧ m = s.size - i ∧ σ = [(0, .string s), (13, .int .i64 (s.size : Nat)), (14, .int .i64 (i : Nat))] ∧ (s.data.toList.take i).all letter = true ∧ w' = w) s.size _ ?_ ⟨0, by omega, by omega, rfl, by simp, rfl⟩ ?_
      · exact ⟨rfl, rfl, rfl, trivial⟩
      rintro m σ w2 ih ⟨i, hi, rfl, rfl, hall, rfl⟩
      by_cases hlt : i < s.size
      · (repeat (first | refine pl_pure hT rfl rfl rfl ?_ | refine pl_nil ?_ | refine rn_seq ?_ | refine rn_plain ?_ | refine rn_block ?_ | refine rn_inBlock ?_ | refine rn_skip ?_ | refine rn_true rfl ?_ | refine rn_false rfl ?_ | refine rn_exit rfl ?_ | refine pl_not rfl rfl ?_ | refine pl_val _ rfl rfl (val_load1 hT rfl rfl rfl (Blk.cell (by assumption) (by rfl))) ?_ | refine pl_yes rfl rfl rfl rfl rfl (by first | (simp only [cmpP]; omega) | (simp [cmpP]; done) | (simp [cmpP]; omega)) ?_ | refine pl_no rfl rfl rfl rfl rfl rfl (by first | (simp only [cmpP]; omega) | (simp [cmpP]; done) | (simp [cmpP]; omega)) ?_))
        have hat := str_at hlt
        have hs := all_take_succ (l := s.data.toList) (i := i) (by omega)
        have hf := all_take_false (l := s.data.toList) (i := i) (by omega)
        generalize s.data.toList[i]'(by omega) = c at *
        refine pl_val _ rfl rfl (val_strAt s i c (by decide +kernel) rfl rfl rfl rfl hat w2) ?_
        by_cases h3 : c.toNat < 97
        · (repeat (first | refine pl_pure hT rfl rfl rfl ?_ | refine pl_nil ?_ | refine rn_seq ?_ | refine rn_plain ?_ | refine rn_block ?_ | refine rn_inBlock ?_ | refine rn_skip ?_ | refine rn_true rfl ?_ | refine rn_false rfl ?_ | refine rn_exit rfl ?_ | refine pl_not rfl rfl ?_ | refine pl_val _ rfl rfl (val_load1 hT rfl rfl rfl (Blk.cell (by assumption) (by rfl))) ?_ | refine pl_yes rfl rfl rfl rfl rfl (by first | (simp only [cmpP]; omega) | (simp [cmpP]; done) | (simp [cmpP]; omega)) ?_ | refine pl_no rfl rfl rfl rfl rfl rfl (by first | (simp only [cmpP]; omega) | (simp [cmpP]; done) | (simp [cmpP]; omega)) ?_))
          refine rn_ret Tryz.func65 (.inl ⟨_, rfl, rfl⟩) ⟨?_, rfl⟩
          rw [nameOk, hf (by simp [letter]; omega)]
          rfl
        · (repeat (first | refine pl_pure hT rfl rfl rfl ?_ | refine pl_nil ?_ | refine rn_seq ?_ | refine rn_plain ?_ | refine rn_block ?_ | refine rn_inBlock ?_ | refine rn_skip ?_ | refine rn_true rfl ?_ | refine rn_false rfl ?_ | refine rn_exit rfl ?_ | refine pl_not rfl rfl ?_ | refine pl_val _ rfl rfl (val_load1 hT rfl rfl rfl (Blk.cell (by assumption) (by rfl))) ?_ | refine pl_yes rfl rfl rfl rfl rfl (by first | (simp only [cmpP]; omega) | (simp [cmpP]; done) | (simp [cmpP]; omega)) ?_ | refine pl_no rfl rfl rfl rfl rfl rfl (by first | (simp only [cmpP]; omega) | (simp [cmpP]; done) | (simp [cmpP]; omega)) ?_))
          refine pl_val _ rfl rfl (val_strAt s i c (by decide +kernel) rfl rfl rfl rfl hat w2) ?_
          by_cases h4 : c.toNat > 122
          · (repeat (first | refine pl_pure hT rfl rfl rfl ?_ | refine pl_nil ?_ | refine rn_seq ?_ | refine rn_plain ?_ | refine rn_block ?_ | refine rn_inBlock ?_ | refine rn_skip ?_ | refine rn_true rfl ?_ | refine rn_false rfl ?_ | refine rn_exit rfl ?_ | refine pl_not rfl rfl ?_ | refine pl_val _ rfl rfl (val_load1 hT rfl rfl rfl (Blk.cell (by assumption) (by rfl))) ?_ | refine pl_yes rfl rfl rfl rfl rfl (by first | (simp only [cmpP]; omega) | (simp [cmpP]; done) | (simp [cmpP]; omega)) ?_ | refine pl_no rfl rfl rfl rfl rfl rfl (by first | (simp only [cmpP]; omega) | (simp [cmpP]; done) | (simp [cmpP]; omega)) ?_))
            refine rn_ret Tryz.func65 (.inl ⟨_, rfl, rfl⟩) ⟨?_, rfl⟩
            rw [nameOk, hf (by simp [letter]; omega)]
            rfl
          · (repeat (first | refine pl_pure hT rfl rfl rfl ?_ | refine pl_nil ?_ | refine rn_seq ?_ | refine rn_plain ?_ | refine rn_block ?_ | refine rn_inBlock ?_ | refine rn_skip ?_ | refine rn_true rfl ?_ | refine rn_false rfl ?_ | refine rn_exit rfl ?_ | refine pl_not rfl rfl ?_ | refine pl_val _ rfl rfl (val_load1 hT rfl rfl rfl (Blk.cell (by assumption) (by rfl))) ?_ | refine pl_yes rfl rfl rfl rfl rfl (by first | (simp only [cmpP]; omega) | (simp [cmpP]; done) | (simp [cmpP]; omega)) ?_ | refine pl_no rfl rfl rfl rfl rfl rfl (by first | (simp only [cmpP]; omega) | (simp [cmpP]; done) | (simp [cmpP]; omega)) ?_))
            refine pl_num (((i + 1 : Nat) : Int)) rfl rfl rfl rfl rfl (by simp only [ariP]; omega) ?_
            (repeat (first | refine pl_pure hT rfl rfl rfl ?_ | refine pl_nil ?_ | refine rn_seq ?_ | refine rn_plain ?_ | refine rn_block ?_ | refine rn_inBlock ?_ | refine rn_skip ?_ | refine rn_true rfl ?_ | refine rn_false rfl ?_ | refine rn_exit rfl ?_ | refine pl_not rfl rfl ?_))
            refine rn_sub ?_ (ih (s.size - (i + 1)) [(0, .string s), (13, .int .i64 (s.size : Nat)), (14, .int .i64 ((i + 1 : Nat) : Int))] w2 (by omega) ⟨i + 1, by omega, rfl, rfl, ?_, rfl⟩)
            · exact ⟨rfl, rfl, rfl, trivial⟩
            · rw [hs, hall]
              simp [letter]
              omega
      · (repeat (first | refine pl_pure hT rfl rfl rfl ?_ | refine pl_nil ?_ | refine rn_seq ?_ | refine rn_plain ?_ | refine rn_block ?_ | refine rn_inBlock ?_ | refine rn_skip ?_ | refine rn_true rfl ?_ | refine rn_false rfl ?_ | refine rn_exit rfl ?_ | refine pl_not rfl rfl ?_ | refine pl_val _ rfl rfl (val_load1 hT rfl rfl rfl (Blk.cell (by assumption) (by rfl))) ?_ | refine pl_yes rfl rfl rfl rfl rfl (by first | (simp only [cmpP]; omega) | (simp [cmpP]; done) | (simp [cmpP]; omega)) ?_ | refine pl_no rfl rfl rfl rfl rfl rfl (by first | (simp only [cmpP]; omega) | (simp [cmpP]; done) | (simp [cmpP]; omega)) ?_))
        refine rn_ret Tryz.func65 (.inl ⟨_, rfl, rfl⟩) ⟨?_, rfl⟩
        rw [List.take_of_length_le (by omega)] at hall
        have e1 : 1 ≤ s.size := by omega
        have e2 : s.size ≤ 8 := by omega
        simp only [nameOk, hall, e1, e2, decide_true, Bool.and_self]

theorem zeroE_eq (op v n : Int) (l : List ET) : zeroE (.mk op v n l) = (decide (op = 0) && decide (v = 0) && decide (n = 0) && decide (l.length = 0)) := by
  cases l with
  | nil => simp only [zeroE, List.isEmpty, List.length, decide_true, Bool.and_true]; rfl
  | cons x r => simp [zeroE]

theorem isZero_ret {F : Nat → Prop} {w : World} {cs : List Value} {t : ET} (h : ExprV F w cs t) : Ret Tryz.prog 84 [.agg cs.toArray] w fun v w' => v = .bool (zeroE t) ∧ Keep [] w w' := by
  obtain ⟨op, v, n, l⟩ := t
  obtain ⟨lv, rfl, hl⟩ := h.inv
  obtain ⟨a, cap, rfl⟩ := hl.form
  refine ret_of 22 Tryz.func84 rfl rfl (by simp) ?_
  (repeat (first | refine pl_pure hT rfl rfl rfl ?_ | refine pl_nil ?_ | refine rn_seq ?_ | refine rn_plain ?_ | refine rn_block ?_ | refine rn_inBlock ?_ | refine rn_skip ?_ | refine rn_true rfl ?_ | refine rn_false rfl ?_ | refine rn_exit rfl ?_ | refine pl_not rfl rfl ?_))
  refine pl_op rfl rfl (opTo_box [.int .i64 op, .int .i64 v, .int .i64 n, .slice a l.length cap] rfl rfl rfl ?_)
  have hk0 : Keep [] w (w.alloc (.cells [.int .i64 op, .int .i64 v, .int .i64 n, .slice a l.length cap].toArray 41)) := (Keep.refl _ _).alloc _
  have hb0 : Blk (w.alloc (.cells [.int .i64 op, .int .i64 v, .int .i64 n, .slice a l.length cap].toArray 41)) w.heap.size [.int .i64 op, .int .i64 v, .int .i64 n, .slice a l.length cap] 41 := Blk.new _ _ _
  generalize (w.alloc (.cells [.int .i64 op, .int .i64 v, .int .i64 n, .slice a l.length cap].toArray 41)) = w1 at *
  generalize w.heap.size = b at *
  rw [zeroE_eq]
  by_cases h1 : op = 0
  · by_cases h2 : v = 0
    · by_cases h3 : n = 0
      · by_cases h4 : l.length = 0
        · (repeat (first | refine pl_pure hT rfl rfl rfl ?_ | refine pl_nil ?_ | refine rn_seq ?_ | refine rn_plain ?_ | refine rn_block ?_ | refine rn_inBlock ?_ | refine rn_skip ?_ | refine rn_true rfl ?_ | refine rn_false rfl ?_ | refine rn_exit rfl ?_ | refine pl_not rfl rfl ?_ | refine pl_val _ rfl rfl (val_load1 hT rfl rfl rfl (Blk.cell (by assumption) (by rfl))) ?_ | refine pl_yes rfl rfl rfl rfl rfl (by first | (simp only [cmpP]; omega) | (simp [cmpP]; done) | (simp [cmpP]; omega)) ?_ | refine pl_no rfl rfl rfl rfl rfl rfl (by first | (simp only [cmpP]; omega) | (simp [cmpP]; done) | (simp [cmpP]; omega)) ?_))
          exact rn_ret Tryz.func84 (.inl ⟨_, rfl, rfl⟩) ⟨by simp [h1, h2, h3, h4], hk0⟩
        · (repeat (first | refine pl_pure hT rfl rfl rfl ?_ | refine pl_nil ?_ | refine rn_seq ?_ | refine rn_plain ?_ | refine rn_block ?_ | refine rn_inBlock ?_ | refine rn_skip ?_ | refine rn_true rfl ?_ | refine rn_false rfl ?_ | refine rn_exit rfl ?_ | refine pl_not rfl rfl ?_ | refine pl_val _ rfl rfl (val_load1 hT rfl rfl rfl (Blk.cell (by assumption) (by rfl))) ?_ | refine pl_yes rfl rfl rfl rfl rfl (by first | (simp only [cmpP]; omega) | (simp [cmpP]; done) | (simp [cmpP]; omega)) ?_ | refine pl_no rfl rfl rfl rfl rfl rfl (by first | (simp only [cmpP]; omega) | (simp [cmpP]; done) | (simp [cmpP]; omega)) ?_))
          exact rn_ret Tryz.func84 (.inl ⟨_, rfl, rfl⟩) ⟨by simp [h1, h2, h3, h4], hk0⟩
      · (repeat (first | refine pl_pure hT rfl rfl rfl ?_ | refine pl_nil ?_ | refine rn_seq ?_ | refine rn_plain ?_ | refine rn_block ?_ | refine rn_inBlock ?_ | refine rn_skip ?_ | refine rn_true rfl ?_ | refine rn_false rfl ?_ | refine rn_exit rfl ?_ | refine pl_not rfl rfl ?_ | refine pl_val _ rfl rfl (val_load1 hT rfl rfl rfl (Blk.cell (by assumption) (by rfl))) ?_ | refine pl_yes rfl rfl rfl rfl rfl (by first | (simp only [cmpP]; omega) | (simp [cmpP]; done) | (simp [cmpP]; omega)) ?_ | refine pl_no rfl rfl rfl rfl rfl rfl (by first | (simp only [cmpP]; omega) | (simp [cmpP]; done) | (simp [cmpP]; omega)) ?_))
        exact rn_ret Tryz.func84 (.inl ⟨_, rfl, rfl⟩) ⟨by simp [h1, h2, h3], hk0⟩
    · (repeat (first | refine pl_pure hT rfl rfl rfl ?_ | refine pl_nil ?_ | refine rn_seq ?_ | refine rn_plain ?_ | refine rn_block ?_ | refine rn_inBlock ?_ | refine rn_skip ?_ | refine rn_true rfl ?_ | refine rn_false rfl ?_ | refine rn_exit rfl ?_ | refine pl_not rfl rfl ?_ | refine pl_val _ rfl rfl (val_load1 hT rfl rfl rfl (Blk.cell (by assumption) (by rfl))) ?_ | refine pl_yes rfl rfl rfl rfl rfl (by first | (simp only [cmpP]; omega) | (simp [cmpP]; done) | (simp [cmpP]; omega)) ?_ | refine pl_no rfl rfl rfl rfl rfl rfl (by first | (simp only [cmpP]; omega) | (simp [cmpP]; done) | (simp [cmpP]; omega)) ?_))
      exact rn_ret Tryz.func84 (.inl ⟨_, rfl, rfl⟩) ⟨by simp [h1, h2], hk0⟩
  · (repeat (first | refine pl_pure hT rfl rfl rfl ?_ | refine pl_nil ?_ | refine rn_seq ?_ | refine rn_plain ?_ | refine rn_block ?_ | refine rn_inBlock ?_ | refine rn_skip ?_ | refine rn_true rfl ?_ | refine rn_false rfl ?_ | refine rn_exit rfl ?_ | refine pl_not rfl rfl ?_ | refine pl_val _ rfl rfl (val_load1 hT rfl rfl rfl (Blk.cell (by assumption) (by rfl))) ?_ | refine pl_yes rfl rfl rfl rfl rfl (by first | (simp only [cmpP]; omega) | (simp [cmpP]; done) | (simp [cmpP]; omega)) ?_ | refine pl_no rfl rfl rfl rfl rfl rfl (by first | (simp only [cmpP]; omega) | (simp [cmpP]; done) | (simp [cmpP]; omega)) ?_))
    exact rn_ret Tryz.func84 (.inl ⟨_, rfl, rfl⟩) ⟨by simp [h1], hk0⟩
end E
end Go.Proofs.YthbkcadiejfgaacGreatDoor

/- Mathematics of a check that is handed part by part: what one look tells, and that the looks one behind the other are what chkE, chkS tell. -/
namespace Go.Proofs.YthbkcadiejfgaacGreatDoor
set_option maxRecDepth 20000
set_option maxHeartbeats 4000000
namespace E

def knownE (op : Int) : Bool := decide (0 ≤ partsOf op)
def fitsE (op n : Int) (len : Nat) : Bool := decide ((len : Int) = partsOf op) && (op == 1 || n == 0)
def namedE (op : Int) : Bool := op == 2 || op == 3
def knownS (op : Int) : Bool := decide (1 ≤ op) && decide (op ≤ 7)
def fitsS (op : Int) (e f : ET) (lb lo : Nat) : Bool := (((needE op || zeroE e) && (needF op || zeroE f)) && (needB op || (lb : Int) == 0)) && (needO op || (lo : Int) == 0)

/-- What a look tells of one part, with k parts met ahead of it. -/
def lookK (nv k : Nat) (deep : Int) (known fits named : Bool) (v : Int) : Int :=
  if deep > 12 then 4 else if k + 1 > 150 then 3 else if known = false then 2 else if fits = false then 5 else varK nv v named

theorem look_room {nv k : Nat} {deep : Int} {a b c : Bool} {v : Int} (h : lookK nv k deep a b c v = 0) : k + 1 ≤ 150 ∧ deep ≤ 12 := by
  unfold lookK at h
  split at h
  · cases h
  · split at h
    · cases h
    · omega

theorem ownE_look (nv : Nat) (op v n : Int) (len : Nat) : ownE nv op v n len = if knownE op = false then 2 else if fitsE op n len = false then 5 else varK nv v (namedE op) := by
  unfold ownE knownE fitsE namedE
  by_cases h1 : partsOf op < 0
  · have : ¬ 0 ≤ partsOf op := by omega
    simp [h1, this]
  · have h1' : 0 ≤ partsOf op := by omega
    simp only [h1, if_false, h1', decide_true, Bool.true_eq_false]
    by_cases h2 : (len : Int) = partsOf op
    · by_cases h3 : op = 1
      · simp [h2, h3]
      · by_cases h4 : n = 0
        · simp [h2, h3, h4]
        · simp [h2, h3, h4]
    · have h2' : partsOf op ≠ (len : Int) := fun h => h2 h.symm
      simp [h2, h2']
theorem ownS_look (nv : Nat) (op v : Int) (e f : ET) (lb lo : Nat) : ownS nv op v e f lb lo = if knownS op = false then 2 else if fitsS op e f lb lo = false then 5 else varK nv v (needV op) := by
  unfold ownS knownS fitsS
  by_cases h1 : op < 1 ∨ op > 7
  · rw [if_pos h1, if_pos]
    simp
    omega
  · have hk : (decide (1 ≤ op) && decide (op ≤ 7)) = true := by simp; omega
    rw [if_neg h1, hk]
    simp only [Bool.true_eq_false, if_false]
    have e1 : ((lb : Int) == 0) = !decide (0 < lb) := by rw [Bool.eq_iff_iff]; simp
    have e2 : ((lo : Int) == 0) = !decide (0 < lo) := by rw [Bool.eq_iff_iff]; simp
    rw [e1, e2]
    cases needE op <;> cases zeroE e <;> cases needF op <;> cases zeroE f <;> cases needB op <;> cases decide (0 < lb) <;> cases needO op <;> cases decide (0 < lo) <;> rfl

theorem chkE_look (nv deep k : Nat) (op v n : Int) (l : List ET) : chkE nv (.mk op v n l) deep k = if lookK nv k deep (knownE op) (fitsE op n l.length) (namedE op) v ≠ 0 then .error (lookK nv k deep (knownE op) (fitsE op n l.length) (namedE op) v) else chkEs nv l (deep + 1) (k + 1) := by
  simp only [chkE, headK, lookK]
  by_cases h1 : deep > 12
  · have h1' : (deep : Int) > 12 := by omega
    simp [h1, h1', nextK]
  · have h1' : ¬ (deep : Int) > 12 := by omega
    by_cases h2 : k + 1 > 150
    · simp only [h1, h1', h2, if_true, if_false, nextK]
      rfl
    · simp only [h1, h1', h2, if_false, nextK, ownE_look]
theorem chkS_look (nv deep k : Nat) (op v : Int) (e f : ET) (b o : List ST) : chkS nv (.mk op v e f b o) deep k = if lookK nv k deep (knownS op) (fitsS op e f b.length o.length) (needV op) v ≠ 0 then .error (lookK nv k deep (knownS op) (fitsS op e f b.length o.length) (needV op) v) else
    nextK (if needE op then chkE nv e (deep + 1) (k + 1) else .ok (k + 1)) fun k2 => nextK (if needF op then chkE nv f (deep + 1) k2 else .ok k2) fun k3 => nextK (chkSs nv b (deep + 1) k3) fun k4 => chkSs nv o (deep + 1) k4 := by
  simp only [chkS, headK, lookK]
  by_cases h1 : deep > 12
  · have h1' : (deep : Int) > 12 := by omega
    simp [h1, h1', nextK]
  · have h1' : ¬ (deep : Int) > 12 := by omega
    by_cases h2 : k + 1 > 150
    · simp only [h1, h1', h2, if_true, if_false, nextK]
      rfl
    · simp only [h1, h1', h2, if_false, nextK, ownS_look]

/-- The expressions of a statement. -/
def els (op : Int) (e f : ET) : List ET := (if needE op then [e] else []) ++ (if needF op then [f] else [])
theorem nextK_assoc (x : Except Int Nat) (f g : Nat → Except Int Nat) : nextK (nextK x f) g = nextK x fun k => nextK (f k) g := by cases x <;> rfl
theorem nextK_one (k : Nat) (f : Nat → Except Int Nat) : nextK (.ok k) f = f k := rfl
theorem nextK_id (x : Except Int Nat) : nextK x (fun k => .ok k) = x := by cases x <;> rfl
theorem chkEs_els (nv : Nat) (op : Int) (e f : ET) (d k : Nat) : chkEs nv (els op e f) d k = nextK (if needE op then chkE nv e d k else .ok k) fun k2 => if needF op then chkE nv f d k2 else .ok k2 := by
  unfold els
  cases needE op <;> cases needF op <;> simp [chkEs, nextK_one, nextK_id]
theorem chkS_parts (nv deep k : Nat) (op v : Int) (e f : ET) (b o : List ST) (h : lookK nv k deep (knownS op) (fitsS op e f b.length o.length) (needV op) v = 0) : chkS nv (.mk op v e f b o) deep k =
    nextK (chkEs nv (els op e f) (deep + 1) (k + 1)) fun k3 => nextK (chkSs nv b (deep + 1) k3) fun k4 => chkSs nv o (deep + 1) k4 := by
  rw [chkS_look, if_neg (by simp [h]), chkEs_els, nextK_assoc]

theorem chkEs_append (nv : Nat) : ∀ (a b : List ET) (d k : Nat), chkEs nv (a ++ b) d k = nextK (chkEs nv a d k) fun k1 => chkEs nv b d k1
  | [], b, d, k => by simp [chkEs, nextK]
  | t :: r, b, d, k => by
    simp only [List.cons_append, chkEs, nextK_assoc]
    congr 1
    funext k1
    exact chkEs_append nv r b d k1
theorem chkSs_append (nv : Nat) : ∀ (a b : List ST) (d k : Nat), chkSs nv (a ++ b) d k = nextK (chkSs nv a d k) fun k1 => chkSs nv b d k1
  | [], b, d, k => by simp [chkSs, nextK]
  | t :: r, b, d, k => by
    simp only [List.cons_append, chkSs, nextK_assoc]
    congr 1
    funext k1
    exact chkSs_append nv r b d k1
theorem chkEs_at {nv d k ki i : Nat} {l : List ET} {t : ET} (ht : l[i]? = some t) (h : chkEs nv (l.take i) d k = .ok ki) :
    chkEs nv (l.take (i + 1)) d k = chkE nv t d ki ∧ ∀ c, chkE nv t d ki = .error c → chkEs nv l d k = .error c := by
  obtain ⟨hlt, e⟩ := List.getElem?_eq_some_iff.1 ht
  refine ⟨?_, fun c hc => ?_⟩
  · rw [List.take_succ_eq_append_getElem hlt, chkEs_append, h, e]
    simp only [nextK, chkEs]
    exact nextK_id _
  · have : l = l.take i ++ t :: l.drop (i + 1) := by rw [← e, ← List.drop_eq_getElem_cons hlt, List.take_append_drop]
    rw [this, chkEs_append, h]
    simp only [nextK, chkEs, hc]
theorem chkSs_at {nv d k ki i : Nat} {l : List ST} {t : ST} (ht : l[i]? = some t) (h : chkSs nv (l.take i) d k = .ok ki) :
    chkSs nv (l.take (i + 1)) d k = chkS nv t d ki ∧ ∀ c, chkS nv t d ki = .error c → chkSs nv l d k = .error c := by
  obtain ⟨hlt, e⟩ := List.getElem?_eq_some_iff.1 ht
  refine ⟨?_, fun c hc => ?_⟩
  · rw [List.take_succ_eq_append_getElem hlt, chkSs_append, h, e]
    simp only [nextK, chkSs]
    exact nextK_id _
  · have : l = l.take i ++ t :: l.drop (i + 1) := by rw [← e, ← List.drop_eq_getElem_cons hlt, List.take_append_drop]
    rw [this, chkSs_append, h]
    simp only [nextK, chkSs, hc]

/-! ### No more parts than may be -/
def Lid (f : Nat → Except Int Nat) : Prop := ∀ k k', k ≤ 150 → f k = .ok k' → k' ≤ 150
mutual
theorem boundE (nv : Nat) : ∀ t d, Lid (chkE nv t d)
  | .mk op v n l, d => fun k k' hk h => by
    rw [chkE_look] at h
    split at h
    · cases h
    · rename_i hz
      have := (look_room (by simpa using hz)).1
      exact boundEs nv l (d + 1) (k + 1) k' this h
theorem boundEs (nv : Nat) : ∀ l d, Lid (chkEs nv l d)
  | [], d => fun k k' hk h => by
    simp only [chkEs] at h
    injection h with h
    omega
  | t :: r, d => fun k k' hk h => by
    simp only [chkEs] at h
    obtain ⟨k1, h1, h2⟩ := nextK_ok h
    exact boundEs nv r d k1 k' (boundE nv t d k k1 hk h1) h2
end
mutual
theorem boundS (nv : Nat) : ∀ t d, Lid (chkS nv t d)
  | .mk op v e f b o, d => fun k k' hk h => by
    by_cases hz : lookK nv k d (knownS op) (fitsS op e f b.length o.length) (needV op) v = 0
    · rw [chkS_parts _ _ _ _ _ _ _ _ _ hz] at h
      obtain ⟨k1, h1, h2⟩ := nextK_ok h
      obtain ⟨k2, h3, h4⟩ := nextK_ok h2
      have := (look_room hz).1
      exact boundSs nv o (d + 1) k2 k' (boundSs nv b (d + 1) k1 k2 (boundEs nv _ (d + 1) (k + 1) k1 this h1) h3) h4
    · rw [chkS_look, if_pos hz] at h
      cases h
theorem boundSs (nv : Nat) : ∀ l d, Lid (chkSs nv l d)
  | [], d => fun k k' hk h => by
    simp only [chkSs] at h
    injection h with h
    omega
  | t :: r, d => fun k k' hk h => by
    simp only [chkSs] at h
    obtain ⟨k1, h1, h2⟩ := nextK_ok h
    exact boundSs nv r d k1 k' (boundS nv t d k k1 hk h1) h2
end
end E
end Go.Proofs.YthbkcadiejfgaacGreatDoor
