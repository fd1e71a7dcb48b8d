/- Several texts in one: PrtL, PtA, RfA, PtB, RfB. -/
import Derived.Test.YtbojicehfbeepadDoorJ05
import Derived.Lib.ItoaLen
import Derived.Test.YtbojicehfbeepadDoorJ03
import Derived.Test.YtbojicehfbeepadDoorJ04
import Derived.Test.YtbojicehfbeepadDoorJ07
/- What a tree must be to be printed; how long its print is. -/
namespace Go.Proofs.YtbojicehfbeepadDoor
set_option maxRecDepth 20000
set_option maxHeartbeats 4000000
namespace E
open Go.Proofs Go.Lib

mutual
def prE (nv : Nat) : ET → Prop
  | .mk op v n l => 1 ≤ op ∧ op ≤ 8 ∧ (op = 2 ∨ op = 3 → 0 ≤ v ∧ v.toNat < nv) ∧ in64 n ∧ prEs nv l
def prEs (nv : Nat) : List ET → Prop
  | [] => True
  | t :: r => prE nv t ∧ prEs nv r
end
mutual
def prS (nv : Nat) : ST → Prop
  | .mk op v e f b o => 1 ≤ op ∧ op ≤ 7 ∧ (needV op = true → 0 ≤ v ∧ v.toNat < nv) ∧ (needE op = true → prE nv e) ∧ (needF op = true → prE nv f) ∧ prSs nv b ∧ prSs nv o
def prSs (nv : Nat) : List ST → Prop
  | [] => True
  | t :: r => prS nv t ∧ prSs nv r
end
theorem prEs_at {nv : Nat} : ∀ {l : List ET} {i : Nat} {t : ET}, prEs nv l → l[i]? = some t → prE nv t
  | [], _, _, _, h => by simp at h
  | x :: r, 0, t, h, e => by simp at e; subst e; exact h.1
  | x :: r, i + 1, t, h, e => by simp at e; exact prEs_at h.2 e
theorem prSs_at {nv : Nat} : ∀ {l : List ST} {i : Nat} {t : ST}, prSs nv l → l[i]? = some t → prS nv t
  | [], _, _, _, h => by simp at h
  | x :: r, 0, t, h, e => by simp at e; subst e; exact h.1
  | x :: r, i + 1, t, h, e => by simp at e; exact prSs_at h.2 e
mutual
theorem chkE_pr {nv : Nat} : ∀ (t : ET) {d k k' : Nat}, chkE nv t d k = .ok k' → longE t → prE nv t
  | .mk op v n l, d, k, k', h, hl => by
    obtain ⟨_, h1, k1, h2⟩ := chkE_inv h
    obtain ⟨a, b, _, _, c, _⟩ := ownE_inv h1
    exact ⟨a, b, c, hl.1, chkEs_pr l h2 hl.2⟩
theorem chkEs_pr {nv : Nat} : ∀ (l : List ET) {d k k' : Nat}, chkEs nv l d k = .ok k' → longEs l → prEs nv l
  | [], _, _, _, _, _ => trivial
  | t :: r, d, k, k', h, hl => by
    obtain ⟨⟨k1, h1⟩, k2, h2⟩ := chkEs_inv h
    exact ⟨chkE_pr t h1 hl.1, chkEs_pr r h2 hl.2⟩
end
mutual
theorem chkS_pr {nv : Nat} : ∀ (t : ST) {d k k' : Nat}, chkS nv t d k = .ok k' → longSt t → prS nv t
  | .mk op v e f b o, d, k, k', h, hl => by
    obtain ⟨_, h1, h2, h3, ⟨k1, k2, h4⟩, k3, k4, h5⟩ := chkS_inv h
    obtain ⟨a, a', _, _, _, _, c, _⟩ := ownS_inv h1
    exact ⟨a, a', c, fun hn => (let ⟨_, _, hc⟩ := h2 hn; chkE_pr e hc hl.1), fun hn => (let ⟨_, _, hc⟩ := h3 hn; chkE_pr f hc hl.2.1), chkSs_pr b h4 hl.2.2.1, chkSs_pr o h5 hl.2.2.2⟩
theorem chkSs_pr {nv : Nat} : ∀ (l : List ST) {d k k' : Nat}, chkSs nv l d k = .ok k' → longSs l → prSs nv l
  | [], _, _, _, _, _ => trivial
  | t :: r, d, k, k', h, hl => by
    obtain ⟨⟨k1, h1⟩, k2, h2⟩ := chkSs_inv h
    exact ⟨chkS_pr t h1 hl.1, chkSs_pr r h2 hl.2⟩
end

/-! ### Lengths -/
def nm8 (vs : List VarT) : Prop := ∀ y ∈ vs, y.1.size ≤ 8
theorem nameV_len {vs : List VarT} (h : nm8 vs) (v : Nat) : (nameV vs v).length ≤ 8 := by
  unfold nameV
  rw [List.getD_eq_getElem?_getD]
  cases hv : vs[v]? with
  | none => simp
  | some y =>
    have := h y (List.mem_of_getElem? hv)
    rw [Option.getD_some, size_toList]
    exact this
theorem wordT_len (k : Nat) : (wordT k).length ≤ 8 := by
  unfold wordT
  repeat' split
  all_goals decide
theorem verbT_len (k : Nat) : (verbT k).length ≤ 8 := by
  unfold verbT
  repeat' split
  all_goals decide
mutual
theorem printE_len {vs : List VarT} {nv : Nat} (hn : nm8 vs) : ∀ (t : ET), prE nv t → (printE vs t).length + 1 ≤ 64 * szE t
  | .mk op v n l, h => by
    obtain ⟨_, _, _, h4, h5⟩ := h
    have i1 := printEs_len hn l h5
    have i2 := wordT_len op.toNat
    have i3 := nameV_len hn v.toNat
    have i4 := itoa_length_le n h4.1 h4.2
    simp only [printE, szE]
    split <;> split <;> simp only [List.length_cons, List.length_append, List.length_nil] <;> omega
theorem printEs_len {vs : List VarT} {nv : Nat} (hn : nm8 vs) : ∀ (l : List ET), prEs nv l → (printEs vs l).length ≤ 64 * szEs l
  | [], _ => by simp [printEs]
  | t :: r, h => by
    have i1 := printE_len hn t h.1
    have i2 := printEs_len hn r h.2
    simp only [printEs, szEs, List.length_cons, List.length_append]
    omega
end
mutual
theorem printS_len {vs : List VarT} {nv : Nat} (hn : nm8 vs) : ∀ (t : ST), prS nv t → (printS vs t).length + 1 ≤ 64 * szS t
  | .mk op v e f b o, h => by
    obtain ⟨_, _, _, h4, h5, h6, h7⟩ := h
    have i1 := printSs_len hn b false h6
    have i1' := printSs_len hn o false h7
    have i2 := verbT_len op.toNat
    have i3 := nameV_len hn v.toNat
    have i4 : (if needE op = true then 32 :: printE vs e else []).length ≤ 64 * szE e := by
      split
      · rename_i hh
        have := printE_len hn e (h4 hh)
        simp only [List.length_cons]; omega
      · simp
    have i5 : (if needF op = true then 32 :: printE vs f else []).length ≤ 64 * szE f := by
      split
      · rename_i hh
        have := printE_len hn f (h5 hh)
        simp only [List.length_cons]; omega
      · simp
    have i6 : (if needV op = true then 32 :: nameV vs v.toNat else []).length ≤ 9 := by
      split
      · simp only [List.length_cons]; omega
      · simp
    have i7 : (if needB op = true then 32 :: 40 :: (printSs vs false b ++ [41]) else []).length ≤ 64 * szSs b + 3 := by
      split
      · simp only [List.length_cons, List.length_append, List.length_nil]; omega
      · simp
    have i8 : (if needO op = true then 32 :: 40 :: (printSs vs false o ++ [41]) else []).length ≤ 64 * szSs o + 3 := by
      split
      · simp only [List.length_cons, List.length_append, List.length_nil]; omega
      · simp
    simp only [printS, szS, List.length_cons, List.length_append, List.length_nil]
    omega
theorem printSs_len {vs : List VarT} {nv : Nat} (hn : nm8 vs) : ∀ (l : List ST) (c : Bool), prSs nv l → (printSs vs c l).length ≤ 64 * szSs l
  | [], _, _ => by simp [printSs]
  | t :: r, c, h => by
    have i1 := printS_len hn t h.1
    have i2 := printSs_len hn r true h.2
    cases c <;> simp [printSs, szSs, List.length_append] <;> omega
end
/-! ### One more -/
theorem printEs_snoc (vs : List VarT) (t : ET) : ∀ (l : List ET), printEs vs (l ++ [t]) = printEs vs l ++ 32 :: printE vs t
  | [] => by simp [printEs]
  | x :: r => by simp only [List.cons_append, printEs, printEs_snoc vs t r, List.append_assoc]
theorem printSs_snoc (vs : List VarT) (t : ST) : ∀ (l : List ST) (c : Bool), printSs vs c (l ++ [t]) = printSs vs c l ++ ((if c || decide (0 < l.length) then [32] else []) ++ printS vs t)
  | [], c => by cases c <;> simp [printSs]
  | x :: r, c => by
    simp only [List.cons_append, printSs, printSs_snoc vs t r true, List.append_assoc]
    cases c <;> simp
theorem printEs_take (vs : List VarT) {l : List ET} {i : Nat} {t : ET} (h : l[i]? = some t) : printEs vs (l.take (i + 1)) = printEs vs (l.take i) ++ 32 :: printE vs t := by
  obtain ⟨hi, rfl⟩ := List.getElem?_eq_some_iff.1 h
  rw [List.take_succ_eq_append_getElem hi, printEs_snoc]
theorem printSs_take (vs : List VarT) {l : List ST} {i : Nat} {t : ST} (h : l[i]? = some t) : printSs vs false (l.take (i + 1)) = printSs vs false (l.take i) ++ ((if 0 < i then [32] else []) ++ printS vs t) := by
  obtain ⟨hi, rfl⟩ := List.getElem?_eq_some_iff.1 h
  rw [List.take_succ_eq_append_getElem hi, printSs_snoc]
  have e : (l.take i).length = i := by simp; omega
  rw [e]
  simp
theorem printB_snoc (vs : List VarT) (t : ST) : ∀ (l : List ST), printB vs (l ++ [t]) = printB vs l ++ (printS vs t ++ [10])
  | [] => by simp [printB]
  | x :: r => by simp only [List.cons_append, printB, printB_snoc vs t r, List.append_assoc]
theorem printB_take (vs : List VarT) {l : List ST} {i : Nat} {t : ST} (h : l[i]? = some t) : printB vs (l.take (i + 1)) = printB vs (l.take i) ++ (printS vs t ++ [10]) := by
  obtain ⟨hi, rfl⟩ := List.getElem?_eq_some_iff.1 h
  rw [List.take_succ_eq_append_getElem hi, printB_snoc]
theorem printV_snoc (x : VarT) : ∀ (l : List VarT), printV (l ++ [x]) = printV l ++ (letT ++ 32 :: (x.1.data.toList ++ 32 :: (itoa x.2 ++ [10])))
  | [] => by simp [printV]
  | y :: r => by simp only [List.cons_append, printV, printV_snoc x r, List.append_assoc]
theorem printV_take {l : List VarT} {i : Nat} {x : VarT} (h : l[i]? = some x) : printV (l.take (i + 1)) = printV (l.take i) ++ (letT ++ 32 :: (x.1.data.toList ++ 32 :: (itoa x.2 ++ [10]))) := by
  obtain ⟨hi, rfl⟩ := List.getElem?_eq_some_iff.1 h
  rw [List.take_succ_eq_append_getElem hi, printV_snoc]
theorem printB_len {vs : List VarT} {nv : Nat} (hn : nm8 vs) : ∀ (l : List ST), prSs nv l → (printB vs l).length ≤ 64 * szSs l
  | [], _ => by simp [printB]
  | t :: r, h => by
    have i1 := printS_len hn t h.1
    have i2 := printB_len hn r h.2
    simp only [printB, szSs, List.length_cons, List.length_append]
    omega
theorem prSs_take {nv : Nat} : ∀ {l : List ST} (i : Nat), prSs nv l → prSs nv (l.take i)
  | [], i, _ => by simp [prSs]
  | x :: r, 0, _ => by simp [prSs]
  | x :: r, i + 1, h => by simp only [List.take_succ_cons]; exact ⟨h.1, prSs_take i h.2⟩
theorem prEs_take {nv : Nat} : ∀ {l : List ET} (i : Nat), prEs nv l → prEs nv (l.take i)
  | [], i, _ => by simp [prEs]
  | x :: r, 0, _ => by simp [prEs]
  | x :: r, i + 1, h => by simp only [List.take_succ_cons]; exact ⟨h.1, prEs_take i h.2⟩
end E
end Go.Proofs.YtbojicehfbeepadDoor

/- Contracts of the document's printing: numbers, an expression. -/
namespace Go.Proofs.YtbojicehfbeepadDoor
set_option maxRecDepth 20000
set_option maxHeartbeats 4000000
namespace E
open Go.Proofs

theorem itoaR_ret (v : Int) (h0 : -9223372036854775808 ≤ v) (h1 : v ≤ 9223372036854775807) {w : World} (hw : Lt w) : Ret Tryd.prog 18 [.int .i64 v] w fun r w' => r = .string (str (Lib.itoa v)) ∧ Keep [] w w' := by
  refine Calls.mono (Any.strconv_Itoa Tryd.laysM171 v h0 h1 w hw.tab) ?_
  rintro e w' ⟨rfl, k, os, rfl⟩
  exact ⟨_, rfl, rfl, keep_grow _ _ _⟩

theorem exprText_ret {vs : List VarT} (hn : nm8 vs) {av : Option Addr} {capv : Nat} {ab : Option Addr} {nb cb : Nat} : ∀ (s : Nat) (t : ET), szE t ≤ s → szE t ≤ 100000 → prE vs.length t → ∀ {F : Nat → Prop} {w : World} {cs : List Value}, VarsV F w (.slice av vs.length capv) vs → ExprV F w cs t → In F w → Lt w →
    Ret Tryd.prog 35 [.agg #[.slice av vs.length capv, .slice ab nb cb], .agg cs.toArray] w fun r w' => r = .string (str (printE vs t)) ∧ Keep [] w w' := by
  intro s
  induction s with
  | zero => intro t ht; have := szE_pos t; omega
  | succ s ih =>
    intro t ht ht3 hpr F w cs hv h hF hw
    obtain ⟨op, v, n, l⟩ := t
    obtain ⟨lv, rfl, hl⟩ := h.inv
    obtain ⟨a, ca, rfl⟩ := hl.form
    have hplen := printE_len hn _ hpr
    obtain ⟨hp1, hp2, hp3, hp4, hp5⟩ := hpr
    simp only [szE] at ht ht3 hplen
    have hlen := szEs_len l
    have hwl := wordT_len op.toNat
    have hil := Go.Lib.itoa_length_le n hp4.1 hp4.2
    have hnl := nameV_len hn v.toNat
    refine ret_of 57 Tryd.func35 rfl rfl (by simp) ?_
    refine au ?_
    refine pl_op rfl rfl (opTo_boxN [.slice av vs.length capv, .slice ab nb cb] rfl rfl rfl ?_)
    intro w1 x1 hx1 hs1 hk1 hX1'
    refine pl_op rfl rfl (opTo_boxN [.int .i64 op, .int .i64 v, .int .i64 n, .slice a l.length ca] rfl rfl rfl ?_)
    intro w2 x2 hx2 hs2 hk2 hX2
    have hX1 := hk2.blk hX1' (by simp)
    have hk := hk1.tr hk2
    have hw2 := hw.keep hk
    have hF2 := hF.keep hk
    have hv2 := hv.keep hk hF.stays
    have hl2 := hl.keep hk hF.stays
    clear hX1' hk1 hk2
    refine au ?_
    refine pl_val _ rfl rfl (val_load1 hT rfl rfl rfl (hX2.cell rfl)) ?_
    refine pl_op rfl rfl (opTo_call (fst := []) (cap := []) rfl rfl rfl rfl (by decide +kernel) ((wordR_ret op w2).mono ?_))
    rintro r w3 ⟨rfl, hk3⟩
    have ew : wordI op = wordT op.toNat := by unfold wordI; rw [if_pos ⟨hp1, hp2⟩]
    rw [ew]
    refine pl_val _ rfl rfl (val_add [40] _ rfl rfl rfl (by simp; omega) _) ?_
    obtain ⟨T1, hT1⟩ : ∃ T1, T1 = [40] ++ wordT op.toNat := ⟨_, rfl⟩
    rw [← hT1]
    have hl1 : T1.length ≤ 9 := by rw [hT1]; simp; omega
    refine auj ?_
    refine rn_seq ?_
    refine rn_with (fun σ' w' => ∃ T2, T2 = T1 ++ (if op = 1 then 32 :: Go.Lib.itoa n else []) ∧ Keep [] w2 w' ∧ Sub [(2, .pointer (some ⟨x1, 0, none⟩)), (3, .pointer (some ⟨x2, 0, none⟩)), (5, .string (str T2))] σ') ?_ ?_
    rotate_left
    · intro fin1
      refine rn_seq ?_
      refine rn_plain ?_
      refine auj ?_
      refine pl_val _ rfl rfl (val_load1 hT rfl rfl rfl ((hk3.blk hX2 (by simp)).cell rfl)) ?_
      by_cases h1 : op = 1
      · refine ye ?_
        refine auj ?_
        refine rn_plain ?_
        refine auj ?_
        refine pl_val _ rfl rfl (val_load1 hT rfl rfl rfl ((hk3.blk hX2 (by simp)).cell rfl)) ?_
        refine pl_op rfl rfl (opTo_call (fst := []) (cap := []) rfl rfl rfl rfl (by decide +kernel) ((formatInt_ret n hp4.1 hp4.2 (hw2.keep hk3)).mono ?_))
        rintro r w4 ⟨rfl, hk4⟩
        refine pl_val _ rfl rfl (val_add [32] _ rfl rfl rfl (by simp; omega) _) ?_
        refine pl_val _ rfl rfl (val_add T1 _ rfl rfl rfl (by simp; omega) _) ?_
        refine auj ?_
        exact fin1 _ _ ⟨_, by rw [if_pos h1]; rfl, hk3.tr hk4, rfl, rfl, rfl, trivial⟩
      · refine nay ?_
        refine auj ?_
        exact fin1 _ _ ⟨T1, by rw [if_neg h1, List.append_nil], hk3, rfl, rfl, rfl, trivial⟩
    rintro σ' w4 ⟨T2, hT2, hk4, hsub⟩
    refine rn_sub hsub ?_
    have hl2' : T2.length ≤ 31 := by rw [hT2]; split <;> simp <;> omega
    refine auj ?_
    refine rn_seq ?_
    refine rn_with (fun σ' w' => ∃ T3, T3 = T2 ++ (if op = 2 ∨ op = 3 then 32 :: nameV vs v.toNat else []) ∧ Keep [] w2 w' ∧ Sub [(2, .pointer (some ⟨x1, 0, none⟩)), (3, .pointer (some ⟨x2, 0, none⟩)), (5, .string (str T3))] σ') ?_ ?_
    rotate_left
    · intro fin2
      refine rn_seq ?_
      refine rn_plain ?_
      refine auj ?_
      refine pl_val _ rfl rfl (val_load1 hT rfl rfl rfl ((hk4.blk hX2 (by simp)).cell rfl)) ?_
      by_cases h23 : op = 2 ∨ op = 3
      · obtain ⟨hv0, hvn⟩ := hp3 h23
        have hget : vs[v.toNat]? = some (vs[v.toNat]'hvn) := List.getElem?_eq_getElem hvn
        obtain ⟨bb, q, cap', hv', hFb, hra⟩ := hv2.at hget
        cases hv'
        have enm : (vs[v.toNat]'hvn).1 = str (nameV vs v.toNat) := by
          unfold nameV
          rw [List.getD_eq_getElem?_getD, hget, Option.getD_some, str_data]
        by_cases h2 : op = 2
        · refine ye ?_
          refine auj ?_
          refine rn_plain ?_
          refine auj ?_
          refine pl_val _ rfl rfl (val_load1 hT rfl rfl rfl ((hk4.blk hX1 (by simp)).cell rfl)) ?_
          refine auj ?_
          refine pl_val _ rfl rfl (val_load1 hT rfl rfl rfl ((hk4.blk hX2 (by simp)).cell rfl)) ?_
          refine pl_val _ rfl rfl (val_index v.toNat hT rfl rfl rfl rfl (by omega) hvn _) ?_
          refine auj ?_
          refine pl_val _ rfl rfl (val_load1 hT rfl rfl rfl ((range_keep hra hk4 (hF2 _ hFb) (by simp)) 0 (.string (vs[v.toNat]'hvn).1) rfl)) ?_
          rw [enm]
          refine pl_val _ rfl rfl (val_add [32] _ rfl rfl rfl (by simp; omega) _) ?_
          refine pl_val _ rfl rfl (val_add T2 _ rfl rfl rfl (by simp; omega) _) ?_
          refine auj ?_
          exact fin2 _ _ ⟨_, by rw [if_pos h23]; rfl, hk4, rfl, rfl, rfl, trivial⟩
        · refine nay ?_
          refine auj ?_
          refine pl_val _ rfl rfl (val_load1 hT rfl rfl rfl ((hk4.blk hX2 (by simp)).cell rfl)) ?_
          refine ye ?_
          refine auj ?_
          refine rn_plain ?_
          refine auj ?_
          refine pl_val _ rfl rfl (val_load1 hT rfl rfl rfl ((hk4.blk hX1 (by simp)).cell rfl)) ?_
          refine auj ?_
          refine pl_val _ rfl rfl (val_load1 hT rfl rfl rfl ((hk4.blk hX2 (by simp)).cell rfl)) ?_
          refine pl_val _ rfl rfl (val_index v.toNat hT rfl rfl rfl rfl (by omega) hvn _) ?_
          refine auj ?_
          refine pl_val _ rfl rfl (val_load1 hT rfl rfl rfl ((range_keep hra hk4 (hF2 _ hFb) (by simp)) 0 (.string (vs[v.toNat]'hvn).1) rfl)) ?_
          rw [enm]
          refine pl_val _ rfl rfl (val_add [32] _ rfl rfl rfl (by simp; omega) _) ?_
          refine pl_val _ rfl rfl (val_add T2 _ rfl rfl rfl (by simp; omega) _) ?_
          refine auj ?_
          exact fin2 _ _ ⟨_, by rw [if_pos h23]; rfl, hk4, rfl, rfl, rfl, trivial⟩
      · refine nay ?_
        refine auj ?_
        refine pl_val _ rfl rfl (val_load1 hT rfl rfl rfl ((hk4.blk hX2 (by simp)).cell rfl)) ?_
        refine nay ?_
        refine auj ?_
        exact fin2 _ _ ⟨T2, by rw [if_neg h23, List.append_nil], hk4, rfl, rfl, rfl, trivial⟩
    rintro σ' w5 ⟨T3, hT3, hk5, hsub⟩
    refine rn_sub hsub ?_
    have hl3 : T3.length ≤ 41 := by rw [hT3]; split <;> simp <;> omega
    have hpes := printEs_len hn l hp5
    refine au ?_
    refine rn_ind (fun m σ w' => ∃ i : Nat, i ≤ l.length ∧ m = l.length - i ∧ σ = [(2, .pointer (some ⟨x1, 0, none⟩)), (3, .pointer (some ⟨x2, 0, none⟩)), (5, .string (str (T3 ++ printEs vs (l.take i)))), (6, .int .i64 (i : Nat))] ∧ Keep [] w2 w') l.length _ ?_ ⟨0, by omega, by omega, rfl, hk5⟩ ?_
    · have e0 : T3 ++ printEs vs (l.take 0) = T3 := by simp [printEs]
      exact ⟨rfl, rfl, by rw [e0]; rfl, rfl, trivial⟩
    rintro m σ w6 ih2 ⟨i, hi, rfl, rfl, hk6⟩
    refine au ?_
    refine pl_val _ rfl rfl (val_load1 hT rfl rfl rfl ((hk6.blk hX2 (by simp)).cell rfl)) ?_
    refine au ?_
    by_cases hlt : i < l.length
    · refine ye ?_
      refine au ?_
      have hx : l[i]? = some l[i] := List.getElem?_eq_getElem hlt
      have hsz := szEs_at hx
      have hpi := prEs_at hp5 hx
      have hpl := printE_len hn _ hpi
      have htk := printEs_take vs hx
      have hpt := printEs_len hn _ (prEs_take i hp5)
      have hst := szEs_take l i
      obtain ⟨b1, q1, _, ci, hv1, hF1, hr1, hc1⟩ := hl2.at hx
      cases hv1
      refine rn_draw (fun w' => Keep [] w6 w') [] hMix ?_
      have hS : Keep [] w6 w6.drew := (Keep.refl _ _).drew
      generalize w6.drew = w7 at *
      refine tk 0 ?_
      refine dr_val 1 (.agg #[.slice av vs.length capv, .slice ab nb cb]) rfl (by decide +kernel) rfl rfl (fun w9 hS9 => val_load [.slice av vs.length capv, .slice ab nb cb] hT rfl rfl rfl (((hk6.tr hS9).blk hX1 (by simp)).range (by rfl))) hS ?_
      refine tk 2 ?_
      refine dr_val 3 _ rfl (by decide +kernel) rfl rfl (fun w9 hS9 => val_load1 hT rfl rfl rfl (((hk6.tr hS9).blk hX2 (by simp)).cell rfl)) hS ?_
      refine tk 4 ?_
      refine dr_any 5 _ rfl (by decide +kernel) rfl rfl (fun w => val_index i hT rfl rfl rfl rfl rfl hlt w) ?_
      refine dr_val 6 (.agg ci.toArray) rfl (by decide +kernel) rfl rfl (fun w9 hS9 => val_load ci hT rfl rfl (by rw [hc1.length]; rfl) (range_keep hr1 (hk6.tr hS9) (hF2 _ hF1) (by simp))) hS ?_
      refine dr_op 7 rfl (by decide +kernel) rfl rfl (opTo_call rfl rfl rfl rfl (by decide +kernel) ((ih l[i] (by omega) (by omega) hpi (hv2.keep (hk6.tr hS) hF2.stays) (hc1.keep (hk6.tr hS) hF2.stays) (hF2.keep (hk6.tr hS)) (hw2.keep (hk6.tr hS))).mono ?_))
      rintro v8 w8 ⟨rfl, hk8⟩
      refine ⟨fun _ => hS.tr hk8, ?_⟩
      refine dr_any 8 _ rfl (by decide +kernel) rfl rfl (fun w => val_add [32] _ rfl rfl rfl (by simp; omega) w) ?_
      refine dr_any 9 _ rfl (by decide +kernel) rfl rfl (fun w => val_add (T3 ++ printEs vs (l.take i)) _ rfl rfl rfl (by simp; omega) w) ?_
      refine tk 10 ?_
      refine dr_done (by decide +kernel) ?_
      have hk68 := (hk6.tr hS).tr hk8
      refine au ?_
      refine pl_num (((i + 1 : Nat) : Int)) rfl rfl rfl rfl rfl (by simp only [ariP]; omega) ?_
      refine au ?_
      refine rn_sub ?_ (ih2 (l.length - (i + 1)) [(2, .pointer (some ⟨x1, 0, none⟩)), (3, .pointer (some ⟨x2, 0, none⟩)), (5, .string (str (T3 ++ printEs vs (l.take (i + 1))))), (6, .int .i64 ((i + 1 : Nat) : Int))] w8 (by omega) ⟨i + 1, by omega, rfl, rfl, hk68⟩)
      rw [htk, ← List.append_assoc]
      exact ⟨rfl, rfl, rfl, rfl, trivial⟩
    · refine nay ?_
      refine au ?_
      rw [List.take_of_length_le (by omega)]
      refine pl_val _ rfl rfl (val_add (T3 ++ printEs vs l) [41] rfl rfl rfl (by simp; omega) _) ?_
      refine au ?_
      refine rn_ret Tryd.func35 (.inl ⟨_, rfl, rfl⟩) ⟨?_, hk.tr hk6⟩
      rw [hT3, hT2, hT1]
      congr 2
      simp only [printE, List.append_assoc, List.cons_append, List.nil_append]
end E
end Go.Proofs.YtbojicehfbeepadDoor

/- Contracts of the document's small functions on programs: what a kind has, what a name is, cells, the zero expression. -/
namespace Go.Proofs.YtbojicehfbeepadDoor
set_option maxRecDepth 20000
set_option maxHeartbeats 4000000
namespace E
open Go.Proofs

theorem zeroExpr_ret {F : Nat → Prop} {w : World} {cs : List Value} {t : ET} (h : ExprV F w cs t) : Ret Tryd.prog 53 [.agg cs.toArray] w fun v w' => v = .bool (zeroE t) ∧ Keep [] w w' := by
  obtain ⟨op, v, n, l⟩ := t
  obtain ⟨lv, rfl, hl⟩ := h.inv
  obtain ⟨a, cap, rfl⟩ := hl.form
  refine ret_of 22 Tryd.func53 rfl rfl (by simp) ?_
  refine au ?_
  refine pl_op rfl rfl (opTo_box [.int .i64 op, .int .i64 v, .int .i64 n, .slice a l.length cap] rfl rfl rfl ?_)
  have hk0 : Keep [] w (w.alloc (.cells [.int .i64 op, .int .i64 v, .int .i64 n, .slice a l.length cap].toArray 38)) := (Keep.refl _ _).alloc _
  have hb0 : Blk (w.alloc (.cells [.int .i64 op, .int .i64 v, .int .i64 n, .slice a l.length cap].toArray 38)) w.heap.size [.int .i64 op, .int .i64 v, .int .i64 n, .slice a l.length cap] 38 := Blk.new _ _ _
  generalize (w.alloc (.cells [.int .i64 op, .int .i64 v, .int .i64 n, .slice a l.length cap].toArray 38)) = w1 at *
  generalize w.heap.size = b at *
  rw [zeroE_eq]
  by_cases h1 : op = 0
  · by_cases h2 : v = 0
    · by_cases h3 : n = 0
      · by_cases h4 : l.length = 0
        · refine aub ?_
          exact rn_ret Tryd.func53 (.inl ⟨_, rfl, rfl⟩) ⟨by simp [h1, h2, h3, h4], hk0⟩
        · refine aub ?_
          exact rn_ret Tryd.func53 (.inl ⟨_, rfl, rfl⟩) ⟨by simp [h1, h2, h3, h4], hk0⟩
      · refine aub ?_
        exact rn_ret Tryd.func53 (.inl ⟨_, rfl, rfl⟩) ⟨by simp [h1, h2, h3], hk0⟩
    · refine aub ?_
      exact rn_ret Tryd.func53 (.inl ⟨_, rfl, rfl⟩) ⟨by simp [h1, h2], hk0⟩
  · refine aub ?_
    exact rn_ret Tryd.func53 (.inl ⟨_, rfl, rfl⟩) ⟨by simp [h1], hk0⟩

theorem partsOf_ret (op : Int) (w : World) : Ret Tryd.prog 65 [.int .i64 op] w fun v w' => v = .int .i64 (partsOf op) ∧ w' = w := by
  refine ret_of 15 Tryd.func65 rfl rfl (by simp) ?_
  have h : (op = 1 ∨ op = 2 ∨ op = 3 ∨ op = 4 ∨ op = 5) ∨ (op = 6 ∨ op = 7 ∨ op = 8 ∨ (op < 1 ∨ op > 8)) := by omega
  rcases h with (h | h | h | h | h) | (h | h | h | h) <;> (refine aub ?_; refine rn_ret Tryd.func65 (.inl ⟨_, rfl, rfl⟩) ⟨?_, rfl⟩; congr 1; (unfold partsOf; repeat' split) <;> omega)

def needsB (op : Int) : ByteArray := if op = 1 then ⟨#[101, 118]⟩ else if op = 2 then ⟨#[101, 102, 118]⟩ else if op = 3 then ⟨#[101]⟩ else if op = 4 then ⟨#[118]⟩ else if op = 5 then ⟨#[101, 98]⟩ else if op = 6 then ⟨#[101, 98, 111]⟩ else ⟨#[]⟩
theorem needs_ret (op : Int) (w : World) : Ret Tryd.prog 57 [.int .i64 op] w fun v w' => v = .string (needsB op) ∧ w' = w := by
  refine ret_of 16 Tryd.func57 rfl rfl (by simp) ?_
  have h : op = 1 ∨ op = 2 ∨ op = 3 ∨ op = 4 ∨ op = 5 ∨ op = 6 ∨ (op ≠ 1 ∧ op ≠ 2 ∧ op ≠ 3 ∧ op ≠ 4 ∧ op ≠ 5 ∧ op ≠ 6) := by omega
  rcases h with h | h | h | h | h | h | h
  · subst h; refine aub ?_; exact rn_ret Tryd.func57 (.inl ⟨_, rfl, rfl⟩) ⟨rfl, rfl⟩
  · subst h; refine aub ?_; exact rn_ret Tryd.func57 (.inl ⟨_, rfl, rfl⟩) ⟨rfl, rfl⟩
  · subst h; refine aub ?_; exact rn_ret Tryd.func57 (.inl ⟨_, rfl, rfl⟩) ⟨rfl, rfl⟩
  · subst h; refine aub ?_; exact rn_ret Tryd.func57 (.inl ⟨_, rfl, rfl⟩) ⟨rfl, rfl⟩
  · subst h; refine aub ?_; exact rn_ret Tryd.func57 (.inl ⟨_, rfl, rfl⟩) ⟨rfl, rfl⟩
  · subst h; refine aub ?_; exact rn_ret Tryd.func57 (.inl ⟨_, rfl, rfl⟩) ⟨rfl, rfl⟩
  · refine aub ?_
    exact rn_ret Tryd.func57 (.inl ⟨_, rfl, rfl⟩) ⟨by simp [needsB, h], rfl⟩

def needC (op : Int) (c : Nat) : Bool := (needsB op).data.toList.any fun x => x.toNat == c
theorem needsB_size (op : Int) : (needsB op).size ≤ 3 := by
  unfold needsB
  repeat' split
  all_goals decide
theorem needed_ret (op : Int) (c : Nat) (w : World) : Ret Tryd.prog 34 [.int .i64 op, .int .u8 (c : Nat)] w fun v w' => v = .bool (needC op c) ∧ w' = w := by
  refine ret_of 20 Tryd.func34 rfl rfl (by simp) ?_
  refine au ?_
  refine pl_op rfl rfl (opTo_call rfl rfl rfl rfl (by decide +kernel) ((needs_ret op w).mono ?_))
  rintro v1 w1 ⟨rfl, rfl⟩
  have h3 := needsB_size op
  unfold needC
  generalize needsB op = s at *
  have hsz : s.data.toList.length = s.size := by simp
  refine au ?_
  refine rn_ind (fun m σ w' => ∃ i : Nat, i ≤ s.size ∧ m = s.size - i ∧ σ = [(1, .int .u8 (c : Nat)), (5, .string s), (6, .int .i64 (i : Nat))] ∧ (s.data.toList.take i).any (fun x => x.toNat == c) = false ∧ w' = w1) s.size _ ?_ ⟨0, by omega, by omega, rfl, by simp, rfl⟩ ?_
  · exact ⟨rfl, rfl, rfl, trivial⟩
  rintro m σ w2 ih ⟨i, hi, rfl, rfl, hany, rfl⟩
  refine au ?_
  refine pl_val _ rfl rfl (val_strLen s (by decide +kernel) rfl rfl w2) ?_
  by_cases hlt : i < s.size
  · refine ye ?_
    refine au ?_
    have hat := str_at hlt
    have hx : s.data.toList[i]? = some (s.data.toList[i]'(by omega)) := List.getElem?_eq_getElem _
    have hsu : (s.data.toList.take (i + 1)).any (fun x => x.toNat == c) = ((s.data.toList[i]'(by omega)).toNat == c) := by
      rw [List.take_succ_eq_append_getElem (by omega), List.any_append, hany]
      simp
    have htr : ((s.data.toList[i]'(by omega)).toNat == c) = true → s.data.toList.any (fun x => x.toNat == c) = true := fun h => List.any_eq_true.2 ⟨_, List.getElem_mem _, h⟩
    generalize s.data.toList[i]'(by omega) = x at *
    refine pl_val _ rfl rfl (val_strAt s i x (by decide +kernel) rfl rfl rfl rfl hat w2) ?_
    refine au ?_
    by_cases hc : x.toNat = c
    · refine ye ?_
      refine au ?_
      exact rn_ret Tryd.func34 (.inl ⟨_, rfl, rfl⟩) ⟨by rw [htr (by simpa using hc)], rfl⟩
    · refine nay ?_
      refine au ?_
      refine pl_num (((i + 1 : Nat) : Int)) rfl rfl rfl rfl rfl (by simp only [ariP]; omega) ?_
      refine au ?_
      refine rn_sub ?_ (ih (s.size - (i + 1)) [(1, .int .u8 (c : Nat)), (5, .string s), (6, .int .i64 ((i + 1 : Nat) : Int))] w2 (by omega) ⟨i + 1, by omega, rfl, rfl, by rw [hsu]; simpa using hc, rfl⟩)
      exact ⟨rfl, rfl, rfl, trivial⟩
  · refine nay ?_
    refine au ?_
    refine rn_ret Tryd.func34 (.inl ⟨_, rfl, rfl⟩) ⟨?_, rfl⟩
    rw [List.take_of_length_le (by omega)] at hany
    rw [hany]

theorem needC_all (op : Int) : needC op 101 = needE op ∧ needC op 102 = needF op ∧ needC op 118 = needV op ∧ needC op 98 = needB op ∧ needC op 111 = needO op := by
  have h : op = 1 ∨ op = 2 ∨ op = 3 ∨ op = 4 ∨ op = 5 ∨ op = 6 ∨ (op ≠ 1 ∧ op ≠ 2 ∧ op ≠ 3 ∧ op ≠ 4 ∧ op ≠ 5 ∧ op ≠ 6) := by omega
  rcases h with h | h | h | h | h | h | h
  · subst h; decide +kernel
  · subst h; decide +kernel
  · subst h; decide +kernel
  · subst h; decide +kernel
  · subst h; decide +kernel
  · subst h; decide +kernel
  · have e : needsB op = ⟨#[]⟩ := by simp [needsB, h]
    simp [needC, e, needE, needF, needV, needB, needO, h]

theorem nameText_ret (s : ByteArray) (hs : s.size ≤ 100000) (w : World) : Ret Tryd.prog 30 [.string s] w fun v w' => v = .bool (nameOk s) ∧ w' = w := by
  refine ret_of 28 Tryd.func30 rfl rfl (by simp) ?_
  have hsz : s.data.toList.length = s.size := by simp
  refine au ?_
  refine rn_ind (fun m σ w' => ∃ i : Nat, i ≤ s.size ∧ m = s.size - i ∧ σ = [(0, .string s), (3, .int .i64 (i : Nat))] ∧ (s.data.toList.take i).all letter = true ∧ w' = w) s.size _ ?_ ⟨0, by omega, by omega, rfl, by simp, rfl⟩ ?_
  · exact ⟨rfl, rfl, trivial⟩
  rintro m σ w2 ih ⟨i, hi, rfl, rfl, hall, rfl⟩
  refine au ?_
  refine pl_val _ rfl rfl (val_strLen s (by decide +kernel) rfl rfl w2) ?_
  by_cases hlt : i < s.size
  · refine ye ?_
    refine au ?_
    have hat := str_at hlt
    have hsu := all_take_succ (l := s.data.toList) (i := i) (by omega)
    have hf := all_take_false (l := s.data.toList) (i := i) (by omega)
    generalize s.data.toList[i]'(by omega) = c at *
    refine pl_val _ rfl rfl (val_strAt s i c (by decide +kernel) rfl rfl rfl rfl hat w2) ?_
    by_cases h3 : c.toNat < 97
    · refine aub ?_
      refine rn_ret Tryd.func30 (.inl ⟨_, rfl, rfl⟩) ⟨?_, rfl⟩
      rw [nameOk, hf (by simp [letter]; omega)]
      rfl
    · refine aub ?_
      refine pl_val _ rfl rfl (val_strAt s i c (by decide +kernel) rfl rfl rfl rfl hat w2) ?_
      by_cases h4 : c.toNat > 122
      · refine aub ?_
        refine rn_ret Tryd.func30 (.inl ⟨_, rfl, rfl⟩) ⟨?_, rfl⟩
        rw [nameOk, hf (by simp [letter]; omega)]
        rfl
      · refine aub ?_
        refine pl_num (((i + 1 : Nat) : Int)) rfl rfl rfl rfl rfl (by simp only [ariP]; omega) ?_
        refine au ?_
        refine rn_sub ?_ (ih (s.size - (i + 1)) [(0, .string s), (3, .int .i64 ((i + 1 : Nat) : Int))] w2 (by omega) ⟨i + 1, by omega, rfl, rfl, ?_, rfl⟩)
        · exact ⟨rfl, rfl, trivial⟩
        · rw [hsu, hall]
          simp [letter]
          omega
  · refine nay ?_
    refine au ?_
    refine pl_val _ rfl rfl (val_strLen s (by decide +kernel) rfl rfl w2) ?_
    rw [List.take_of_length_le (by omega)] at hall
    by_cases h1 : s.size ≥ 1
    · refine aub ?_
      refine pl_val _ rfl rfl (val_strLen s (by decide +kernel) rfl rfl w2) ?_
      by_cases h8 : s.size ≤ 8
      · refine aub ?_
        refine rn_ret Tryd.func30 (.inl ⟨_, rfl, rfl⟩) ⟨?_, rfl⟩
        have e1 : 1 ≤ s.size := h1
        simp only [nameOk, hall, e1, h8, decide_true, Bool.and_self]
      · refine aub ?_
        refine rn_ret Tryd.func30 (.inl ⟨_, rfl, rfl⟩) ⟨?_, rfl⟩
        simp [nameOk, h8]
    · refine aub ?_
      refine rn_ret Tryd.func30 (.inl ⟨_, rfl, rfl⟩) ⟨?_, rfl⟩
      have e1 : ¬ 1 ≤ s.size := h1
      simp [nameOk, e1]

end E
end Go.Proofs.YtbojicehfbeepadDoor

/- Contracts of the document's printing: lists, statements. -/
namespace Go.Proofs.YtbojicehfbeepadDoor
set_option maxRecDepth 20000
set_option maxHeartbeats 4000000
namespace E
open Go.Proofs

/-- stmtText does for what is smaller. -/
def StT (vs : List VarT) (av : Option Addr) (capv : Nat) (ab : Option Addr) (nb cb : Nat) (s : Nat) : Prop := ∀ (t : ST), szS t < s → szS t ≤ 100000 → prS vs.length t → ∀ {F : Nat → Prop} {w : World} {cs : List Value}, VarsV F w (.slice av vs.length capv) vs → StmtV F w cs t → In F w → Lt w →
    Ret Tryd.prog 19 [.agg #[.slice av vs.length capv, .slice ab nb cb], .agg cs.toArray] w fun r w' => r = .string (str (printS vs t)) ∧ Keep [] w w'

theorem listText_ret {vs : List VarT} (hn : nm8 vs) {av : Option Addr} {capv : Nat} {ab : Option Addr} {nb cb : Nat} {s : Nat} (hst : StT vs av capv ab nb cb s) (l : List ST) (hls : szSs l < s) (hl3 : szSs l ≤ 100000) (hpr : prSs vs.length l) {F : Nat → Prop} {w : World} {x : Value}
    (hv : VarsV F w (.slice av vs.length capv) vs) (h : StmtsV F w x l) (hF : In F w) (hw : Lt w) : Ret Tryd.prog 36 [.agg #[.slice av vs.length capv, .slice ab nb cb], x] w fun r w' => r = .string (str (40 :: (printSs vs false l ++ [41]))) ∧ Keep [] w w' := by
  obtain ⟨a, ca, rfl⟩ := h.form
  have hlen := szSs_len l
  have hpll := printSs_len hn l false hpr
  refine ret_of 27 Tryd.func36 rfl rfl (by simp) ?_
  refine au ?_
  refine pl_op rfl rfl (opTo_boxN [.slice av vs.length capv, .slice ab nb cb] rfl rfl rfl ?_)
  intro w2 x1 hx1 hs1 hk hX1
  have hw2 := hw.keep hk
  have hF2 := hF.keep hk
  have hv2 := hv.keep hk hF.stays
  have hl2 := h.keep hk hF.stays
  refine au ?_
  refine rn_ind (fun m σ w' => ∃ i : Nat, i ≤ l.length ∧ m = l.length - i ∧ σ = [(1, .slice a l.length ca), (2, .pointer (some ⟨x1, 0, none⟩)), (5, .string (str ([40] ++ printSs vs false (l.take i)))), (6, .int .i64 (i : Nat))] ∧ Keep [] w2 w') l.length _ ?_ ⟨0, by omega, by omega, rfl, Keep.refl _ _⟩ ?_
  · have e0 : [40] ++ printSs vs false (l.take 0) = [40] := by simp [printSs]
    exact ⟨rfl, rfl, by rw [e0]; rfl, rfl, trivial⟩
  rintro m σ w6 ih2 ⟨i, hi, rfl, rfl, hk6⟩
  refine au ?_
  by_cases hlt : i < l.length
  · refine ye ?_
    have hx : l[i]? = some l[i] := List.getElem?_eq_getElem hlt
    have hsz := szSs_at hx
    have hpi := prSs_at hpr hx
    have hpl := printS_len hn _ hpi
    have htk := printSs_take vs hx
    have hpt := printSs_len hn _ false (prSs_take i hpr)
    have hst' := szSs_take l i
    obtain ⟨T1, hT1⟩ : ∃ T1, T1 = [40] ++ printSs vs false (l.take i) := ⟨_, rfl⟩
    rw [← hT1]
    have hl1 : T1.length ≤ 6500000 := by rw [hT1]; simp; omega
    obtain ⟨b1, q1, _, ci, hv1, hF1, hr1, hc1⟩ := hl2.at hx
    cases hv1
    refine auj ?_
    refine rn_seq ?_
    refine rn_block ?_
    refine rn_seq ?_
    refine rn_with (fun σ' w' => ∃ T2, T2 = T1 ++ (if 0 < i then [32] else []) ∧ w' = w6 ∧ Sub [(1, .slice (some ⟨b1, q1, none⟩) l.length ca), (2, .pointer (some ⟨x1, 0, none⟩)), (5, .string (str T2)), (6, .int .i64 (i : Nat))] σ') ?_ ?_
    rotate_left
    · intro fin1
      refine rn_seq ?_
      refine rn_plain ?_
      refine auj ?_
      by_cases h0 : 0 < i
      · refine ye ?_
        refine auj ?_
        refine rn_plain ?_
        refine auj ?_
        refine pl_val _ rfl rfl (val_add T1 [32] rfl rfl rfl (by simp; omega) _) ?_
        refine auj ?_
        exact fin1 _ _ ⟨_, by rw [if_pos h0], rfl, rfl, rfl, rfl, rfl, trivial⟩
      · refine nay ?_
        refine auj ?_
        exact fin1 _ _ ⟨T1, by rw [if_neg h0, List.append_nil], rfl, rfl, rfl, rfl, rfl, trivial⟩
    rintro σ' w6' ⟨T2, hT2, hww, hsub⟩
    rw [hww]
    refine rn_sub hsub ?_
    have hl2' : T2.length ≤ 6500001 := by rw [hT2]; split <;> simp <;> omega
    refine rn_draw (fun w' => Keep [] w6 w') [] hMix ?_
    have hS : Keep [] w6 w6.drew := (Keep.refl _ _).drew
    generalize w6.drew = w7 at *
    refine tk 0 ?_
    refine dr_val 1 (.agg #[.slice av vs.length capv, .slice ab nb cb]) rfl (by decide +kernel) rfl rfl (fun w9 hS9 => val_load [.slice av vs.length capv, .slice ab nb cb] hT rfl rfl rfl (((hk6.tr hS9).blk hX1 (by simp)).range (by rfl))) hS ?_
    refine tk 2 ?_
    refine tk 3 ?_
    refine dr_any 4 _ rfl (by decide +kernel) rfl rfl (fun w => val_index i hT rfl rfl rfl rfl rfl hlt w) ?_
    refine dr_val 5 (.agg ci.toArray) rfl (by decide +kernel) rfl rfl (fun w9 hS9 => val_load ci hT rfl rfl (by rw [hc1.length]; rfl) (range_keep hr1 (hk6.tr hS9) (hF2 _ hF1) (by simp))) hS ?_
    refine dr_op 6 rfl (by decide +kernel) rfl rfl (opTo_call rfl rfl rfl rfl (by decide +kernel) ((hst l[i] (by omega) (by omega) hpi (hv2.keep (hk6.tr hS) hF2.stays) (hc1.keep (hk6.tr hS) hF2.stays) (hF2.keep (hk6.tr hS)) (hw2.keep (hk6.tr hS))).mono ?_))
    rintro v8 w8 ⟨rfl, hk8⟩
    refine ⟨fun _ => hS.tr hk8, ?_⟩
    refine dr_any 7 _ rfl (by decide +kernel) rfl rfl (fun w => val_add T2 _ rfl rfl rfl (by omega) w) ?_
    refine tk 8 ?_
    refine dr_done (by decide +kernel) ?_
    have hk68 := (hk6.tr hS).tr hk8
    refine au ?_
    refine pl_num (((i + 1 : Nat) : Int)) rfl rfl rfl rfl rfl (by simp only [ariP]; omega) ?_
    refine au ?_
    refine rn_sub ?_ (ih2 (l.length - (i + 1)) [(1, .slice (some ⟨b1, q1, none⟩) l.length ca), (2, .pointer (some ⟨x1, 0, none⟩)), (5, .string (str ([40] ++ printSs vs false (l.take (i + 1))))), (6, .int .i64 ((i + 1 : Nat) : Int))] w8 (by omega) ⟨i + 1, by omega, rfl, rfl, hk68⟩)
    have e : [40] ++ printSs vs false (l.take (i + 1)) = T2 ++ printS vs l[i] := by
      rw [htk, hT2, hT1]
      simp only [List.append_assoc]
    rw [e]
    exact ⟨rfl, rfl, rfl, rfl, trivial⟩
  · refine nay ?_
    refine au ?_
    rw [List.take_of_length_le (by omega)]
    refine pl_val _ rfl rfl (val_add ([40] ++ printSs vs false l) [41] rfl rfl rfl (by simp; omega) _) ?_
    refine au ?_
    exact rn_ret Tryd.func36 (.inl ⟨_, rfl, rfl⟩) ⟨rfl, hk.tr hk6⟩

theorem stmtText_ret {vs : List VarT} (hn : nm8 vs) {av : Option Addr} {capv : Nat} {ab : Option Addr} {nb cb : Nat} : ∀ (s : Nat), StT vs av capv ab nb cb s := by
  intro s
  induction s with
  | zero => intro t ht; omega
  | succ s ih =>
    intro t ht ht3 hpr F w cs hv h hF hw
    obtain ⟨op, v, e, f, lb, lo⟩ := t
    obtain ⟨ce, cf, bv, ov, rfl, he, hf, hb, ho⟩ := h.inv
    obtain ⟨e0, e1, e2, e3, rfl⟩ := list4 he.length
    obtain ⟨f0, f1, f2, f3, rfl⟩ := list4 hf.length
    obtain ⟨ba, bc, rfl⟩ := hb.form
    obtain ⟨oa, oc, rfl⟩ := ho.form
    obtain ⟨hp1, hp2, hp3, hp4, hp5, hp6, hp7⟩ := hpr
    simp only [szS] at ht ht3
    have hwl := verbT_len op.toNat
    have hnl := nameV_len hn v.toNat
    have hel : needE op = true → (printE vs e).length ≤ 6400000 := fun hh => by have := printE_len hn e (hp4 hh); omega
    have hfl : needF op = true → (printE vs f).length ≤ 6400000 := fun hh => by have := printE_len hn f (hp5 hh); omega
    have hbl := printSs_len hn lb false hp6
    have hol := printSs_len hn lo false hp7
    refine ret_of 65 Tryd.func19 rfl rfl (by simp) ?_
    refine au ?_
    refine pl_op rfl rfl (opTo_boxN [.slice av vs.length capv, .slice ab nb cb] rfl rfl rfl ?_)
    intro w1 x1 hx1 hs1 hk1 hX1'
    refine pl_op rfl rfl (opTo_boxN [.int .i64 op, .int .i64 v, e0, e1, e2, e3, f0, f1, f2, f3, .slice ba lb.length bc, .slice oa lo.length oc] rfl rfl rfl ?_)
    intro w2 x2 hx2 hs2 hk2 hX2
    have hX1 := hk2.blk hX1' (by simp)
    have hk := hk1.tr hk2
    have hw2 := hw.keep hk
    have hF2 := hF.keep hk
    have hv2 := hv.keep hk hF.stays
    have he2 := he.keep hk hF.stays
    have hf2 := hf.keep hk hF.stays
    have hb2 := hb.keep hk hF.stays
    have ho2 := ho.keep hk hF.stays
    clear hX1' hk1 hk2
    refine au ?_
    refine pl_val _ rfl rfl (val_load1 hT rfl rfl rfl (hX2.cell rfl)) ?_
    refine pl_op rfl rfl (opTo_call (fst := []) (cap := []) rfl rfl rfl rfl (by decide +kernel) ((verbR_ret op w2).mono ?_))
    rintro r w3 ⟨rfl, hk3⟩
    have ew : verbI op = verbT op.toNat := by unfold verbI; rw [if_pos ⟨hp1, hp2⟩]
    rw [ew]
    refine pl_val _ rfl rfl (val_add [40] _ rfl rfl rfl (by simp; omega) _) ?_
    obtain ⟨T3, hT3⟩ : ∃ T3, T3 = [40] ++ verbT op.toNat := ⟨_, rfl⟩
    rw [← hT3]
    have hl3 : T3.length ≤ 7000000 := by rw [hT3]; simp; omega
    refine auj ?_
    refine rn_seq ?_
    refine rn_with (fun σ' w' => ∃ T', T' = T3 ++ (if needV op = true then 32 :: nameV vs v.toNat else []) ∧ Keep [] w2 w' ∧ Sub [(2, .pointer (some ⟨x1, 0, none⟩)), (3, .pointer (some ⟨x2, 0, none⟩)), (5, .string (str T'))] σ') ?_ ?_
    rotate_left
    · intro fin1
      refine rn_seq ?_
      refine rn_plain ?_
      refine auj ?_
      refine pl_val _ rfl rfl (val_load1 hT rfl rfl rfl ((hk3.blk hX2 (by simp)).cell rfl)) ?_
      refine pl_op rfl rfl (opTo_call (fst := []) (cap := []) rfl rfl rfl rfl (by decide +kernel) ((needed_ret op 118 w3).mono ?_))
      rintro r w9 ⟨rfl, hww⟩
      rw [hww, (needC_all op).2.2.1]
      obtain ⟨q, hq⟩ : ∃ q, q = needV op := ⟨_, rfl⟩
      rw [← hq]
      cases q with
      | true =>
        refine auj ?_
        refine rn_plain ?_
        refine auj ?_
        obtain ⟨hv0, hvn⟩ := hp3 hq.symm
        have hget : vs[v.toNat]? = some (vs[v.toNat]'hvn) := List.getElem?_eq_getElem hvn
        obtain ⟨bb, q, cap', hv', hFb, hra⟩ := hv2.at hget
        cases hv'
        have enm : (vs[v.toNat]'hvn).1 = str (nameV vs v.toNat) := by
          unfold nameV
          rw [List.getD_eq_getElem?_getD, hget, Option.getD_some, str_data]
        refine pl_val _ rfl rfl (val_load1 hT rfl rfl rfl ((hk3.blk hX1 (by simp)).cell rfl)) ?_
        refine auj ?_
        refine pl_val _ rfl rfl (val_load1 hT rfl rfl rfl ((hk3.blk hX2 (by simp)).cell rfl)) ?_
        refine pl_val _ rfl rfl (val_index v.toNat hT rfl rfl rfl rfl (by omega) hvn _) ?_
        refine auj ?_
        refine pl_val _ rfl rfl (val_load1 hT rfl rfl rfl ((range_keep hra hk3 (hF2 _ hFb) (by simp)) 0 (.string (vs[v.toNat]'hvn).1) rfl)) ?_
        rw [enm]
        refine pl_val _ rfl rfl (val_add [32] _ rfl rfl rfl (by simp; omega) _) ?_
        refine pl_val _ rfl rfl (val_add T3 _ rfl rfl rfl (by simp; omega) _) ?_
        refine auj ?_
        exact fin1 _ _ ⟨_, by rw [← hq]; rfl, hk3, rfl, rfl, rfl, trivial⟩
      | false =>
        refine auj ?_
        exact fin1 _ _ ⟨T3, by rw [← hq]; simp, hk3, rfl, rfl, rfl, trivial⟩
    rintro σ' w4 ⟨T4, hT4, hk4, hsub⟩
    refine rn_sub hsub ?_
    have hl4 : T4.length ≤ 14000000 := by
      rw [hT4]
      by_cases hh : needV op = true
      · rw [if_pos hh]
        skip
        simp
        omega
      · rw [if_neg hh]
        simp
        omega
    refine auj ?_
    refine rn_seq ?_
    refine rn_with (fun σ' w' => ∃ T', T' = T4 ++ (if needE op = true then 32 :: printE vs e else []) ∧ Keep [] w2 w' ∧ Sub [(2, .pointer (some ⟨x1, 0, none⟩)), (3, .pointer (some ⟨x2, 0, none⟩)), (5, .string (str T'))] σ') ?_ ?_
    rotate_left
    · intro fin1
      refine rn_seq ?_
      refine rn_plain ?_
      refine auj ?_
      refine pl_val _ rfl rfl (val_load1 hT rfl rfl rfl ((hk4.blk hX2 (by simp)).cell rfl)) ?_
      refine pl_op rfl rfl (opTo_call (fst := []) (cap := []) rfl rfl rfl rfl (by decide +kernel) ((needed_ret op 101 w4).mono ?_))
      rintro r w9 ⟨rfl, hww⟩
      rw [hww, (needC_all op).1]
      obtain ⟨q, hq⟩ : ∃ q, q = needE op := ⟨_, rfl⟩
      rw [← hq]
      cases q with
      | true =>
        refine auj ?_
        refine rn_plain ?_
        refine auj ?_
        have hee := hel hq.symm
        refine pl_val _ rfl rfl (val_load [.slice av vs.length capv, .slice ab nb cb] hT rfl rfl rfl ((hk4.blk hX1 (by simp)).range (by rfl))) ?_
        refine auj ?_
        refine pl_val (.agg #[e0, e1, e2, e3]) rfl rfl (val_load [e0, e1, e2, e3] hT rfl rfl rfl ((hk4.blk hX2 (by simp)).range (by rfl))) ?_
        refine pl_op rfl rfl (opTo_call (fst := []) (cap := []) rfl rfl rfl rfl (by decide +kernel) ((exprText_ret hn (szE e) e (Nat.le_refl _) (by omega) (hp4 hq.symm) (hv2.keep hk4 hF2.stays) (he2.keep hk4 hF2.stays) (hF2.keep hk4) (hw2.keep hk4)).mono ?_))
        rintro r w10 ⟨rfl, hk10⟩
        refine pl_val _ rfl rfl (val_add [32] _ rfl rfl rfl (by simp; omega) _) ?_
        refine pl_val _ rfl rfl (val_add T4 _ rfl rfl rfl (by simp; omega) _) ?_
        refine auj ?_
        exact fin1 _ _ ⟨_, by rw [← hq]; rfl, hk4.tr hk10, rfl, rfl, rfl, trivial⟩
      | false =>
        refine auj ?_
        exact fin1 _ _ ⟨T4, by rw [← hq]; simp, hk4, rfl, rfl, rfl, trivial⟩
    rintro σ' w5 ⟨T5, hT5, hk5, hsub⟩
    refine rn_sub hsub ?_
    have hl5 : T5.length ≤ 21000000 := by
      rw [hT5]
      by_cases hh : needE op = true
      · rw [if_pos hh]
        have := hel hh
        simp
        omega
      · rw [if_neg hh]
        simp
        omega
    refine auj ?_
    refine rn_seq ?_
    refine rn_with (fun σ' w' => ∃ T', T' = T5 ++ (if needF op = true then 32 :: printE vs f else []) ∧ Keep [] w2 w' ∧ Sub [(2, .pointer (some ⟨x1, 0, none⟩)), (3, .pointer (some ⟨x2, 0, none⟩)), (5, .string (str T'))] σ') ?_ ?_
    rotate_left
    · intro fin1
      refine rn_seq ?_
      refine rn_plain ?_
      refine auj ?_
      refine pl_val _ rfl rfl (val_load1 hT rfl rfl rfl ((hk5.blk hX2 (by simp)).cell rfl)) ?_
      refine pl_op rfl rfl (opTo_call (fst := []) (cap := []) rfl rfl rfl rfl (by decide +kernel) ((needed_ret op 102 w5).mono ?_))
      rintro r w9 ⟨rfl, hww⟩
      rw [hww, (needC_all op).2.1]
      obtain ⟨q, hq⟩ : ∃ q, q = needF op := ⟨_, rfl⟩
      rw [← hq]
      cases q with
      | true =>
        refine auj ?_
        refine rn_plain ?_
        refine auj ?_
        have hee := hfl hq.symm
        refine pl_val _ rfl rfl (val_load [.slice av vs.length capv, .slice ab nb cb] hT rfl rfl rfl ((hk5.blk hX1 (by simp)).range (by rfl))) ?_
        refine auj ?_
        refine pl_val (.agg #[f0, f1, f2, f3]) rfl rfl (val_load [f0, f1, f2, f3] hT rfl rfl rfl ((hk5.blk hX2 (by simp)).range (by rfl))) ?_
        refine pl_op rfl rfl (opTo_call (fst := []) (cap := []) rfl rfl rfl rfl (by decide +kernel) ((exprText_ret hn (szE f) f (Nat.le_refl _) (by omega) (hp5 hq.symm) (hv2.keep hk5 hF2.stays) (hf2.keep hk5 hF2.stays) (hF2.keep hk5) (hw2.keep hk5)).mono ?_))
        rintro r w10 ⟨rfl, hk10⟩
        refine pl_val _ rfl rfl (val_add [32] _ rfl rfl rfl (by simp; omega) _) ?_
        refine pl_val _ rfl rfl (val_add T5 _ rfl rfl rfl (by simp; omega) _) ?_
        refine auj ?_
        exact fin1 _ _ ⟨_, by rw [← hq]; rfl, hk5.tr hk10, rfl, rfl, rfl, trivial⟩
      | false =>
        refine auj ?_
        exact fin1 _ _ ⟨T5, by rw [← hq]; simp, hk5, rfl, rfl, rfl, trivial⟩
    rintro σ' w6 ⟨T6, hT6, hk6, hsub⟩
    refine rn_sub hsub ?_
    have hl6 : T6.length ≤ 28000000 := by
      rw [hT6]
      by_cases hh : needF op = true
      · rw [if_pos hh]
        have := hfl hh
        simp
        omega
      · rw [if_neg hh]
        simp
        omega
    refine auj ?_
    refine rn_seq ?_
    refine rn_with (fun σ' w' => ∃ T', T' = T6 ++ (if needB op = true then 32 :: 40 :: (printSs vs false lb ++ [41]) else []) ∧ Keep [] w2 w' ∧ Sub [(2, .pointer (some ⟨x1, 0, none⟩)), (3, .pointer (some ⟨x2, 0, none⟩)), (5, .string (str T'))] σ') ?_ ?_
    rotate_left
    · intro fin1
      refine rn_seq ?_
      refine rn_plain ?_
      refine auj ?_
      refine pl_val _ rfl rfl (val_load1 hT rfl rfl rfl ((hk6.blk hX2 (by simp)).cell rfl)) ?_
      refine pl_op rfl rfl (opTo_call (fst := []) (cap := []) rfl rfl rfl rfl (by decide +kernel) ((needed_ret op 98 w6).mono ?_))
      rintro r w9 ⟨rfl, hww⟩
      rw [hww, (needC_all op).2.2.2.1]
      obtain ⟨q, hq⟩ : ∃ q, q = needB op := ⟨_, rfl⟩
      rw [← hq]
      cases q with
      | true =>
        refine auj ?_
        refine rn_plain ?_
        refine auj ?_
        refine pl_val _ rfl rfl (val_load [.slice av vs.length capv, .slice ab nb cb] hT rfl rfl rfl ((hk6.blk hX1 (by simp)).range (by rfl))) ?_
        refine auj ?_
        refine pl_val _ rfl rfl (val_load1 hT rfl rfl rfl ((hk6.blk hX2 (by simp)).cell rfl)) ?_
        refine pl_op rfl rfl (opTo_call (fst := []) (cap := []) rfl rfl rfl rfl (by decide +kernel) ((listText_ret hn ih lb (by omega) (by omega) hp6 (hv2.keep hk6 hF2.stays) (hb2.keep hk6 hF2.stays) (hF2.keep hk6) (hw2.keep hk6)).mono ?_))
        rintro r w10 ⟨rfl, hk10⟩
        refine pl_val _ rfl rfl (val_add [32] _ rfl rfl rfl (by simp; omega) _) ?_
        refine pl_val _ rfl rfl (val_add T6 _ rfl rfl rfl (by simp; omega) _) ?_
        refine auj ?_
        exact fin1 _ _ ⟨_, by rw [← hq]; rfl, hk6.tr hk10, rfl, rfl, rfl, trivial⟩
      | false =>
        refine auj ?_
        exact fin1 _ _ ⟨T6, by rw [← hq]; simp, hk6, rfl, rfl, rfl, trivial⟩
    rintro σ' w7 ⟨T7, hT7, hk7, hsub⟩
    refine rn_sub hsub ?_
    have hl7 : T7.length ≤ 35000000 := by
      rw [hT7]
      by_cases hh : needB op = true
      · rw [if_pos hh]
        skip
        simp
        omega
      · rw [if_neg hh]
        simp
        omega
    refine auj ?_
    refine rn_seq ?_
    refine rn_with (fun σ' w' => ∃ T', T' = T7 ++ (if needO op = true then 32 :: 40 :: (printSs vs false lo ++ [41]) else []) ∧ Keep [] w2 w' ∧ Sub [(2, .pointer (some ⟨x1, 0, none⟩)), (3, .pointer (some ⟨x2, 0, none⟩)), (5, .string (str T'))] σ') ?_ ?_
    rotate_left
    · intro fin1
      refine rn_seq ?_
      refine rn_plain ?_
      refine auj ?_
      refine pl_val _ rfl rfl (val_load1 hT rfl rfl rfl ((hk7.blk hX2 (by simp)).cell rfl)) ?_
      refine pl_op rfl rfl (opTo_call (fst := []) (cap := []) rfl rfl rfl rfl (by decide +kernel) ((needed_ret op 111 w7).mono ?_))
      rintro r w9 ⟨rfl, hww⟩
      rw [hww, (needC_all op).2.2.2.2]
      obtain ⟨q, hq⟩ : ∃ q, q = needO op := ⟨_, rfl⟩
      rw [← hq]
      cases q with
      | true =>
        refine auj ?_
        refine rn_plain ?_
        refine auj ?_
        refine pl_val _ rfl rfl (val_load [.slice av vs.length capv, .slice ab nb cb] hT rfl rfl rfl ((hk7.blk hX1 (by simp)).range (by rfl))) ?_
        refine auj ?_
        refine pl_val _ rfl rfl (val_load1 hT rfl rfl rfl ((hk7.blk hX2 (by simp)).cell rfl)) ?_
        refine pl_op rfl rfl (opTo_call (fst := []) (cap := []) rfl rfl rfl rfl (by decide +kernel) ((listText_ret hn ih lo (by omega) (by omega) hp7 (hv2.keep hk7 hF2.stays) (ho2.keep hk7 hF2.stays) (hF2.keep hk7) (hw2.keep hk7)).mono ?_))
        rintro r w10 ⟨rfl, hk10⟩
        refine pl_val _ rfl rfl (val_add [32] _ rfl rfl rfl (by simp; omega) _) ?_
        refine pl_val _ rfl rfl (val_add T7 _ rfl rfl rfl (by simp; omega) _) ?_
        refine auj ?_
        exact fin1 _ _ ⟨_, by rw [← hq]; rfl, hk7.tr hk10, rfl, rfl, rfl, trivial⟩
      | false =>
        refine auj ?_
        exact fin1 _ _ ⟨T7, by rw [← hq]; simp, hk7, rfl, rfl, rfl, trivial⟩
    rintro σ' w8 ⟨T8, hT8, hk8, hsub⟩
    refine rn_sub hsub ?_
    have hl8 : T8.length ≤ 42000000 := by
      rw [hT8]
      by_cases hh : needO op = true
      · rw [if_pos hh]
        skip
        simp
        omega
      · rw [if_neg hh]
        simp
        omega
    refine au ?_
    refine pl_val _ rfl rfl (val_add T8 [41] rfl rfl rfl (by simp; omega) _) ?_
    refine au ?_
    refine rn_ret Tryd.func19 (.inl ⟨_, rfl, rfl⟩) ⟨?_, hk.tr hk8⟩
    rw [hT8, hT7, hT6, hT5, hT4, hT3]
    congr 2
    simp only [printS, List.append_assoc, List.cons_append, List.nil_append]
end E
end Go.Proofs.YtbojicehfbeepadDoor

/- Contracts of the document's looking: bad, head, variable, expr. -/
namespace Go.Proofs.YtbojicehfbeepadDoor
set_option maxRecDepth 20000
set_option maxHeartbeats 4000000
namespace E
open Go.Proofs

abbrev tLk : Nat := 72
def lkC (a b : Value) (n : Nat) (c : Int) : List Value := [a, b, .int .i64 (n : Nat), .int .i64 c]
def badC (is : Bool) (c cd : Int) : Int := if is = true ∧ c = 0 then cd else c

section
variable {w : World} {j n : Nat} {a b : Value} {c : Int}

theorem bad_ret (h : Blk w j (lkC a b n c) tLk) (is : Bool) (cd : Int) :
    Ret Tryd.prog 52 [.pointer (some ⟨j, 0, none⟩), .bool is, .int .i64 cd] w fun r w' => r = .tuple #[] ∧ Blk w' j (lkC a b n (badC is c cd)) tLk ∧ Keep [j] w w' := by
  refine ret_of 18 Tryd.func52 rfl rfl (by simp) ?_
  have h' := h
  unfold lkC at h'
  cases is with
  | false =>
    refine au ?_
    refine rn_end Tryd.func52 (.inr (.inl ⟨rfl, rfl⟩)) ⟨rfl, ?_, Keep.refl _ _⟩
    simpa [badC] using h
  | true =>
    by_cases hc : c = 0
    · refine aub ?_
      refine pl_op rfl rfl (opTo_storeN [.int .i64 cd] rfl rfl rfl rfl (by kernel_rfl) h' (by simp) (by simp; rfl) ?_)
      intro w1 hs1 hk1 hB1
      refine au ?_
      refine rn_end Tryd.func52 (.inr (.inl ⟨rfl, rfl⟩)) ⟨rfl, ?_, hk1⟩
      have e : badC true c cd = cd := by simp [badC, hc]
      rw [e]
      exact hB1
    · refine aub ?_
      refine rn_end Tryd.func52 (.inr (.inl ⟨rfl, rfl⟩)) ⟨rfl, ?_, Keep.refl _ _⟩
      have e : badC true c cd = c := by simp [badC, hc]
      rw [e]
      exact h

theorem head_ret (h : Blk w j (lkC a b n c) tLk) (deep : Int) (hn : n ≤ 100000) :
    Ret Tryd.prog 51 [.pointer (some ⟨j, 0, none⟩), .int .i64 deep] w fun r w' => r = .tuple #[] ∧ Blk w' j (lkC a b (n + 1) (badC (decide (n + 1 > 150)) (badC (decide (deep > 12)) c 4) 3)) tLk ∧ Keep [j] w w' := by
  refine ret_of 22 Tryd.func51 rfl rfl (by simp) ?_
  have h' := h
  unfold lkC at h'
  refine aub ?_
  refine pl_num (((n + 1 : Nat) : Int)) rfl rfl rfl rfl rfl (by simp only [ariP]; omega) ?_
  refine au ?_
  refine pl_op rfl rfl (opTo_storeN [.int .i64 ((n + 1 : Nat) : Int)] rfl rfl rfl rfl (by kernel_rfl) h' (by simp) (by simp; rfl) ?_)
  intro w1 hs1 hk1 hB1
  have hB1' : Blk w1 j (lkC a b (n + 1) c) tLk := hB1
  refine au ?_
  refine pl_val (.bool (decide (deep > 12))) rfl rfl (val_int .i64 _ _ _ rfl rfl rfl (by rfl) w1) ?_
  refine pl_op rfl rfl (opTo_call rfl rfl rfl rfl (by decide +kernel) ((bad_ret hB1' (decide (deep > 12)) 4).mono ?_))
  rintro v2 w2 ⟨rfl, hB2, hk2⟩
  have hB2' := hB2
  unfold lkC at hB2'
  refine au ?_
  refine pl_val _ rfl rfl (val_load1 hT rfl rfl rfl (hB2'.cell rfl)) ?_
  refine pl_val (.bool (decide (n + 1 > 150))) rfl rfl (val_int .i64 _ _ _ rfl rfl rfl (by simp only [intOp]; congr 2; simp; omega) w2) ?_
  refine pl_op rfl rfl (opTo_call rfl rfl rfl rfl (by decide +kernel) ((bad_ret hB2 (decide (n + 1 > 150)) 3).mono ?_))
  rintro v3 w3 ⟨rfl, hB3, hk3⟩
  refine au ?_
  exact rn_end Tryd.func51 (.inr (.inl ⟨rfl, rfl⟩)) ⟨rfl, hB3, (hk1.tr hk2).tr hk3⟩

def varC (nv : Nat) (v : Int) (has : Bool) (c : Int) : Int := if has then badC (decide (v < 0 ∨ v ≥ (nv : Int))) c 1 else badC (decide (v ≠ 0)) c 5

theorem variable_ret {av : Option Addr} {nv capv : Nat} (h : Blk w j (lkC (.slice av nv capv) b n c) tLk) (v : Int) (has : Bool) :
    Ret Tryd.prog 54 [.pointer (some ⟨j, 0, none⟩), .int .i64 v, .bool has] w fun r w' => r = .tuple #[] ∧ Blk w' j (lkC (.slice av nv capv) b n (varC nv v has c)) tLk ∧ Keep [j] w w' := by
  refine ret_of 25 Tryd.func54 rfl rfl (by simp) ?_
  have h' := h
  unfold lkC at h'
  cases has with
  | true =>
    by_cases h1 : v < 0
    · refine aub ?_
      refine pl_op rfl rfl (opTo_call rfl rfl rfl rfl (by decide +kernel) ((bad_ret h true 1).mono ?_))
      rintro v2 w2 ⟨rfl, hB2, hk2⟩
      refine au ?_
      refine rn_end Tryd.func54 (.inr (.inl ⟨rfl, rfl⟩)) ⟨rfl, ?_, hk2⟩
      have e : varC nv v true c = badC true c 1 := by simp [varC, h1]
      rw [e]
      exact hB2
    · refine aub ?_
      refine pl_val (.bool (decide (v ≥ (nv : Int)))) rfl rfl (val_int .i64 _ _ _ rfl rfl rfl (by rfl) w) ?_
      refine au ?_
      refine pl_op rfl rfl (opTo_call rfl rfl rfl rfl (by decide +kernel) ((bad_ret h (decide (v ≥ (nv : Int))) 1).mono ?_))
      rintro v2 w2 ⟨rfl, hB2, hk2⟩
      refine au ?_
      refine rn_end Tryd.func54 (.inr (.inl ⟨rfl, rfl⟩)) ⟨rfl, ?_, hk2⟩
      have e : varC nv v true c = badC (decide (v ≥ (nv : Int))) c 1 := by simp [varC, h1]
      rw [e]
      exact hB2
  | false =>
    refine au ?_
    refine pl_val (.bool (decide (v ≠ 0))) rfl rfl (val_int .i64 _ _ _ rfl rfl rfl (by simp only [intOp]; congr 2; rw [Bool.eq_iff_iff]; simp) w) ?_
    refine pl_op rfl rfl (opTo_call rfl rfl rfl rfl (by decide +kernel) ((bad_ret h (decide (v ≠ 0)) 5).mono ?_))
    rintro v2 w2 ⟨rfl, hB2, hk2⟩
    refine au ?_
    exact rn_end Tryd.func54 (.inr (.inl ⟨rfl, rfl⟩)) ⟨rfl, hB2, hk2⟩
end

/-- From how many parts, and which code, to how many and which, by a check. -/
def Tr (x : Nat → Except Int Nat) (n : Nat) (c : Int) (n' : Nat) (c' : Int) : Prop :=
  (c ≠ 0 → n' = n ∧ c' = c) ∧ (c = 0 → (∀ q, x n = .ok q → n' = q ∧ c' = 0) ∧ ∀ e, x n = .error e → c' = e) ∧ n' ≤ 151 ∧ (c' = 0 → n' ≤ 150)
theorem Tr.id {n : Nat} {c : Int} (h : n ≤ 151) (h0 : c = 0 → n ≤ 150) : Tr (fun k => .ok k) n c n c := ⟨fun _ => ⟨rfl, rfl⟩, fun hc => ⟨fun q hq => by injection hq with hq; exact ⟨hq, hc⟩, fun e he => by cases he⟩, h, h0⟩
theorem Tr.seq {x y : Nat → Except Int Nat} {n n1 n2 : Nat} {c c1 c2 : Int} (h1 : Tr x n c n1 c1) (hx : Coded (x n)) (h2 : Tr y n1 c1 n2 c2) : Tr (fun k => nextK (x k) y) n c n2 c2 := by
  refine ⟨fun hc => ?_, fun hc => ?_, h2.2.2⟩
  · obtain ⟨rfl, rfl⟩ := h1.1 hc
    exact h2.1 hc
  · obtain ⟨ha, hb⟩ := h1.2.1 hc
    cases hxn : x n with
    | error e =>
      have := hb e hxn
      subst this
      obtain ⟨rfl, rfl⟩ := h2.1 (hx _ hxn)
      exact ⟨fun q hq => (by simp only [nextK, hxn] at hq; cases hq), fun e' he => (by simp only [nextK, hxn] at he; injection he)⟩
    | ok k1 =>
      obtain ⟨rfl, rfl⟩ := ha k1 hxn
      have := h2.2.1 rfl
      exact ⟨fun q hq => this.1 q (by simpa only [nextK, hxn] using hq), fun e he => this.2 e (by simpa only [nextK, hxn] using he)⟩

theorem look_chain (nv n : Nat) (deep : Int) (known fits1 fits2 named : Bool) (v : Int) (k2 f1 f2 : Bool) (h1 : k2 = !known) (h2 : (f1 || f2) = !(fits1 && fits2)) :
    varC nv v named (badC f2 (badC f1 (badC k2 (badC (decide (n + 1 > 150)) (badC (decide (deep > 12)) 0 4) 3) 2) 5) 5) = lookK nv n deep known (fits1 && fits2) named v := by
  unfold lookK
  by_cases d : deep > 12
  · have : varC nv v named 4 = 4 := by cases named <;> simp [varC, badC]
    simp [badC, d, this]
  · by_cases m : n + 1 > 150
    · have : varC nv v named 3 = 3 := by cases named <;> simp [varC, badC]
      simp [badC, d, m, this]
    · cases known with
      | false =>
        have : varC nv v named 2 = 2 := by cases named <;> simp [varC, badC]
        subst h1
        simp [badC, d, m, this]
      | true =>
        subst h1
        cases hf : (fits1 && fits2) with
        | false =>
          rw [hf] at h2
          have : varC nv v named 5 = 5 := by cases named <;> simp [varC, badC]
          cases f1 with
          | true => simp [badC, d, m, this]
          | false =>
            simp at h2
            subst h2
            simp [badC, d, m, this]
        | true =>
          rw [hf] at h2
          simp at h2
          obtain ⟨rfl, rfl⟩ := h2
          have : varC nv v named 0 = varK nv v named := by cases named <;> simp [varC, badC, varK]
          simp [badC, d, m, this]

theorem lookExpr_ret {j nv capv : Nat} {av : Option Addr} {b : Value} : ∀ (s : Nat) (t : ET), szE t ≤ s → szE t ≤ 100000 → ∀ {F : Nat → Prop} {w : World} {cs : List Value} (deep n : Nat) (c : Int), ExprV F w cs t → In F w → ¬ F j → Blk w j (lkC (.slice av nv capv) b n c) tLk → deep ≤ 14 → n ≤ 151 → (c = 0 → n ≤ 150) →
    Ret Tryd.prog 55 [.pointer (some ⟨j, 0, none⟩), .agg cs.toArray, .int .i64 (deep : Nat)] w fun r w' => r = .tuple #[] ∧ (∃ n' c', Blk w' j (lkC (.slice av nv capv) b n' c') tLk ∧ Tr (chkE nv t deep) n c n' c') ∧ Keep [j] w w' := by
  intro s
  induction s with
  | zero => intro t ht; have := szE_pos t; omega
  | succ s ih =>
    intro t ht ht3 F w cs deep n c h hF hFj hJ hdeep hn hn0
    obtain ⟨op, v, nn, l⟩ := t
    obtain ⟨lv, rfl, hl⟩ := h.inv
    obtain ⟨al, capl, rfl⟩ := hl.form
    simp only [szE] at ht ht3
    have hlen := szEs_len l
    refine ret_of 75 Tryd.func55 rfl rfl (by simp) ?_
    refine au ?_
    refine pl_op rfl rfl (opTo_boxN [.int .i64 op, .int .i64 v, .int .i64 nn, .slice al l.length capl] rfl rfl rfl ?_)
    intro w1 x hx hs1 hk1 hX1
    have hJ1 := hk1.blk hJ (by simp)
    have hJ1' := hJ1
    unfold lkC at hJ1'
    have hxj : x ≠ j := hX1.ne hJ1 (by decide)
    refine au ?_
    refine pl_val _ rfl rfl (val_load1 hT rfl rfl rfl (hJ1'.cell rfl)) ?_
    by_cases hc : c = 0
    · subst hc
      have hn150 := hn0 rfl
      refine nay ?_
      refine au ?_
      refine pl_op rfl rfl (opTo_call rfl rfl rfl rfl (by decide +kernel) ((head_ret hJ1 (deep : Nat) (by omega)).mono ?_))
      rintro v2 w2 ⟨rfl, hJ2, hk2⟩
      have hX2 := hk2.blk hX1 (by simpa using hxj)
      refine au ?_
      refine pl_val _ rfl rfl (val_load1 hT rfl rfl rfl (hX2.cell rfl)) ?_
      refine pl_op rfl rfl (opTo_call rfl rfl rfl rfl (by decide +kernel) ((partsOf_ret op w2).mono ?_))
      rintro v3 w3 ⟨rfl, rfl⟩
      refine au ?_
      refine pl_val (.bool (!knownE op)) rfl rfl (val_int .i64 _ _ _ rfl rfl rfl (by simp only [intOp]; congr 2; unfold knownE; rw [Bool.eq_iff_iff]; simp) w3) ?_
      refine pl_op rfl rfl (opTo_call rfl rfl rfl rfl (by decide +kernel) ((bad_ret hJ2 (!knownE op) 2).mono ?_))
      rintro v4 w4 ⟨rfl, hJ4, hk4⟩
      have hX4 := hk4.blk hX2 (by simpa using hxj)
      refine au ?_
      refine pl_val _ rfl rfl (val_load1 hT rfl rfl rfl (hX4.cell rfl)) ?_
      refine au ?_
      refine pl_val (.bool (!decide ((l.length : Int) = partsOf op))) rfl rfl (val_int .i64 _ _ _ rfl rfl rfl (by simp only [intOp]; congr 2; rw [Bool.eq_iff_iff]; simp; omega) w4) ?_
      refine pl_op rfl rfl (opTo_call rfl rfl rfl rfl (by decide +kernel) ((bad_ret hJ4 (!decide ((l.length : Int) = partsOf op)) 5).mono ?_))
      rintro v5 w5 ⟨rfl, hJ5, hk5⟩
      have hX5 := hk5.blk hX4 (by simpa using hxj)
      refine pl_nil ?_
      refine rn_seq ?_
      refine rn_with (fun σ' w' => ∃ c6, c6 = badC (!(op == 1 || nn == 0)) (badC (!decide ((l.length : Int) = partsOf op)) (badC (!knownE op) (badC (decide (n + 1 > 150)) (badC (decide ((deep : Int) > 12)) 0 4) 3) 2) 5) 5 ∧ Blk w' j (lkC (.slice av nv capv) b (n + 1) c6) tLk ∧ Blk w' x [.int .i64 op, .int .i64 v, .int .i64 nn, .slice al l.length capl] 38 ∧ Keep [j] w w' ∧ Sub [(0, .pointer (some ⟨j, 0, none⟩)), (2, .int .i64 (deep : Nat)), (4, .pointer (some ⟨x, 0, none⟩))] σ') ?_ ?_
      · rintro σ' w6 ⟨c6, hc6, hJ6, hX6, hk6, hsub⟩
        refine rn_sub hsub ?_
        refine rn_seq ?_
        refine rn_with (fun σ' w' => ∃ c7, c7 = varC nv v (namedE op) c6 ∧ Blk w' j (lkC (.slice av nv capv) b (n + 1) c7) tLk ∧ Blk w' x [.int .i64 op, .int .i64 v, .int .i64 nn, .slice al l.length capl] 38 ∧ Keep [j] w w' ∧ Sub [(0, .pointer (some ⟨j, 0, none⟩)), (2, .int .i64 (deep : Nat)), (4, .pointer (some ⟨x, 0, none⟩))] σ') ?_ ?_
        · rintro σ' w7 ⟨c7, hc7, hJ7, hX7, hk7, hsub⟩
          refine rn_sub hsub ?_
          have hck : c7 = lookK nv n (deep : Nat) (knownE op) (fitsE op nn l.length) (namedE op) v := by
            rw [hc7, hc6]
            exact look_chain nv n (deep : Nat) (knownE op) (decide ((l.length : Int) = partsOf op)) (op == 1 || nn == 0) (namedE op) v _ _ _ rfl (by cases decide ((l.length : Int) = partsOf op) <;> cases (op == 1 || nn == 0) <;> rfl)
          clear hc6 hc7 hJ1 hJ1' hJ2 hJ4 hJ5 hX1 hX2 hX4 hX5 hk2 hk4 hk5
          refine au ?_
          refine rn_ind (fun m σ w' => ∃ (i ni : Nat) (ci : Int), i ≤ l.length ∧ m = l.length - i ∧ σ = [(0, .pointer (some ⟨j, 0, none⟩)), (2, .int .i64 (deep : Nat)), (4, .pointer (some ⟨x, 0, none⟩)), (7, .int .i64 (i : Nat))] ∧ Blk w' j (lkC (.slice av nv capv) b ni ci) tLk ∧ Blk w' x [.int .i64 op, .int .i64 v, .int .i64 nn, .slice al l.length capl] 38 ∧ Keep [j] w w' ∧
            ni ≤ 151 ∧ ((ci = 0 ∧ c7 = 0 ∧ ni ≤ 150 ∧ chkEs nv (l.take i) (deep + 1) (n + 1) = .ok ni) ∨ (ci ≠ 0 ∧ chkE nv (.mk op v nn l) deep n = .error ci))) l.length _ ?_ ⟨0, n + 1, c7, by omega, by omega, rfl, hJ7, hX7, hk7, by omega, ?_⟩ ?_
          · exact ⟨rfl, rfl, rfl, rfl, trivial⟩
          · by_cases hz : c7 = 0
            · have := look_room (hck.symm.trans hz)
              exact .inl ⟨hz, hz, by omega, by simp [chkEs]⟩
            · refine .inr ⟨hz, ?_⟩
              rw [chkE_look, ← hck, if_pos hz]
          clear hJ7 hX7 hk7
          rintro m σ w8 ih2 ⟨i, ni, ci, hi, rfl, rfl, hJ8, hX8, hk8, hni, hor⟩
          have hJ8' := hJ8
          unfold lkC at hJ8'
          refine au ?_
          refine pl_val _ rfl rfl (val_load1 hT rfl rfl rfl (hX8.cell rfl)) ?_
          refine au ?_
          by_cases hlt : i < l.length
          · rcases hor with ⟨hci, hc70, hni150, hch⟩ | ⟨hci, hch⟩
            · subst hci
              have hroom := look_room (hck.symm.trans hc70)
              have hget : l[i]? = some l[i] := List.getElem?_eq_getElem hlt
              have hsz := szEs_at hget
              have hat := chkEs_at hget hch
              obtain ⟨bb, q, _, cj, hvv, _, hra, hcj⟩ := (hl.keep hk8 (stays_but hF hFj)).at hget
              cases hvv
              refine aub ?_
              refine pl_val _ rfl rfl (val_index i hT rfl rfl rfl rfl rfl hlt w8) ?_
              refine pl_val (.agg cj.toArray) rfl rfl (val_load cj hT rfl rfl (by rw [hcj.length]; rfl) hra) ?_
              refine au ?_
              refine pl_num (((deep + 1 : Nat) : Int)) rfl rfl rfl rfl rfl (by simp only [ariP]; omega) ?_
              refine pl_op rfl rfl (opTo_call rfl rfl rfl rfl (by decide +kernel) ((ih l[i] (by omega) (by omega) (deep + 1) ni 0 hcj (hF.keep hk8) hFj hJ8 (by omega) hni (fun _ => hni150)).mono ?_))
              rintro v9 w9 ⟨rfl, ⟨n9, c9, hJ9, htr9⟩, hk9⟩
              have hX9 := hk9.blk hX8 (by simpa using hxj)
              refine au ?_
              refine pl_num (((i + 1 : Nat) : Int)) rfl rfl rfl rfl rfl (by simp only [ariP]; omega) ?_
              refine au ?_
              refine rn_sub ?_ (ih2 (l.length - (i + 1)) [(0, .pointer (some ⟨j, 0, none⟩)), (2, .int .i64 (deep : Nat)), (4, .pointer (some ⟨x, 0, none⟩)), (7, .int .i64 ((i + 1 : Nat) : Int))] w9 (by omega)
                ⟨i + 1, n9, c9, by omega, rfl, rfl, hJ9, hX9, hk8.tr hk9, htr9.2.2.1, ?_⟩)
              · exact ⟨rfl, rfl, rfl, rfl, trivial⟩
              · have ht := htr9.2.1 rfl
                cases hx9 : chkE nv l[i] (deep + 1) ni with
                | ok q =>
                  obtain ⟨rfl, rfl⟩ := ht.1 q hx9
                  exact .inl ⟨rfl, hc70, htr9.2.2.2 rfl, by rw [hat.1, hx9]⟩
                | error e =>
                  have := ht.2 e hx9
                  subst this
                  refine .inr ⟨codedE nv _ _ _ _ hx9, ?_⟩
                  rw [chkE_look, ← hck, if_neg (by simp [hc70])]
                  exact hat.2 _ hx9
            · refine aub ?_
              refine rn_end Tryd.func55 (.inr (.inl ⟨rfl, rfl⟩)) ⟨rfl, ⟨ni, ci, hJ8, ?_⟩, hk8⟩
              exact ⟨fun h => absurd rfl h, fun _ => ⟨fun q hq => (by rw [hch] at hq; cases hq), fun e he => (by rw [hch] at he; injection he)⟩, hni, fun h => absurd h hci⟩
          · refine nay ?_
            refine au ?_
            refine rn_end Tryd.func55 (.inr (.inl ⟨rfl, rfl⟩)) ⟨rfl, ⟨ni, ci, hJ8, ?_⟩, hk8⟩
            rcases hor with ⟨hci, hc70, hni150, hch⟩ | ⟨hci, hch⟩
            · rw [List.take_of_length_le (by omega)] at hch
              have hE : chkE nv (.mk op v nn l) deep n = .ok ni := by rw [chkE_look, ← hck, if_neg (by simp [hc70])]; exact hch
              exact ⟨fun h => absurd rfl h, fun _ => ⟨fun q hq => (by rw [hE] at hq; injection hq with hq; exact ⟨hq, hci⟩), fun e he => (by rw [hE] at he; cases he)⟩, hni, fun _ => hni150⟩
            · exact ⟨fun h => absurd rfl h, fun _ => ⟨fun q hq => (by rw [hch] at hq; cases hq), fun e he => (by rw [hch] at he; injection he)⟩, hni, fun h => absurd h hci⟩
        · intro fin7
          by_cases h2 : op = 2
          · refine aub ?_
            refine pl_op rfl rfl (opTo_call rfl rfl rfl rfl (by decide +kernel) ((variable_ret hJ6 v true).mono ?_))
            rintro v7 w7 ⟨rfl, hJ7, hk7⟩
            refine pl_nil ?_
            exact fin7 _ _ ⟨_, by simp [namedE, h2], hJ7, hk7.blk hX6 (by simpa using hxj), hk6.tr hk7, rfl, rfl, rfl, trivial⟩
          · refine aub ?_
            refine pl_val (.bool (namedE op)) rfl rfl (val_int .i64 _ _ _ rfl rfl rfl (by simp [intOp, namedE, h2]) w6) ?_
            refine au ?_
            refine pl_op rfl rfl (opTo_call rfl rfl rfl rfl (by decide +kernel) ((variable_ret hJ6 v (namedE op)).mono ?_))
            rintro v7 w7 ⟨rfl, hJ7, hk7⟩
            refine pl_nil ?_
            exact fin7 _ _ ⟨_, rfl, hJ7, hk7.blk hX6 (by simpa using hxj), hk6.tr hk7, rfl, rfl, rfl, trivial⟩
      · intro fin6
        have hk5w : Keep [j] w w5 := (((Keep.of0 hk1).tr hk2).tr hk4).tr hk5
        by_cases h1 : op = 1
        · refine aub ?_
          refine pl_op rfl rfl (opTo_call rfl rfl rfl rfl (by decide +kernel) ((bad_ret hJ5 false 5).mono ?_))
          rintro v6 w6 ⟨rfl, hJ6, hk6⟩
          refine pl_nil ?_
          exact fin6 _ _ ⟨_, by simp [h1], hJ6, hk6.blk hX5 (by simpa using hxj), hk5w.tr hk6, rfl, rfl, rfl, trivial⟩
        · refine aub ?_
          refine pl_val (.bool (!(op == 1 || nn == 0))) rfl rfl (val_int .i64 _ _ _ rfl rfl rfl (by simp only [intOp]; congr 2; rw [Bool.eq_iff_iff]; simp [h1]) w5) ?_
          refine au ?_
          refine pl_op rfl rfl (opTo_call rfl rfl rfl rfl (by decide +kernel) ((bad_ret hJ5 (!(op == 1 || nn == 0)) 5).mono ?_))
          rintro v6 w6 ⟨rfl, hJ6, hk6⟩
          refine pl_nil ?_
          exact fin6 _ _ ⟨_, rfl, hJ6, hk6.blk hX5 (by simpa using hxj), hk5w.tr hk6, rfl, rfl, rfl, trivial⟩
    · refine ye ?_
      refine au ?_
      refine rn_ret Tryd.func55 (.inr (.inl ⟨rfl, rfl⟩)) ⟨rfl, ⟨n, c, hJ1, ?_⟩, Keep.of0 hk1⟩
      exact ⟨fun _ => ⟨rfl, rfl⟩, fun h => absurd h hc, hn, hn0⟩
end E
end Go.Proofs.YtbojicehfbeepadDoor
