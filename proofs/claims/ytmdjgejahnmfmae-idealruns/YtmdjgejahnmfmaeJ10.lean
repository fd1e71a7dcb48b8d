/- Several texts in one: IrB, IrC, IrD, IrE, IrF, IrG, LiftC. -/
import Derived.Test.YtmdjgejahnmfmaeJ09
import Derived.Test.YtmdjgejahnmfmaeJ03
/- The landed package ideal: contracts of cell, expr. -/
namespace Go.Proofs.Ytmdjgejahnmfmae
set_option maxRecDepth 20000
set_option maxHeartbeats 4000000
namespace E
open Go.Proofs

theorem sizeV_at {vs : List VarT} {k : Nat} (hk : k < vs.length) : sizeV vs ((k : Nat) : Int) = vs[k].2 := by
  unfold sizeV
  rw [Int.toNat_natCast, List.getD_eq_getElem?_getD, List.getElem?_eq_getElem hk]
  rfl
theorem rcell_in {vs : List VarT} (hz : ∀ x ∈ vs, 1 ≤ x.2 ∧ x.2 ≤ 48) {v n : Int} (hv0 : 0 ≤ v) (hvl : v.toNat < vs.length) (_ : 0 ≤ n) (hn : n < sizeV vs v) : 0 ≤ cellOf vs v ∧ cellOf vs v + n < sumV vs := by
  obtain ⟨k, rfl⟩ : ∃ k : Nat, v = (k : Nat) := ⟨v.toNat, by omega⟩
  rw [Int.toNat_natCast] at hvl
  rw [sizeV_at hvl] at hn
  have h1 := sumV_take_succ (List.getElem?_eq_getElem hvl)
  have h2 := sumV_take_le hz (show k + 1 ≤ vs.length by omega)
  have h3 := sumV_take_le hz (Nat.zero_le k)
  rw [List.take_length] at h2
  have e : cellOf vs ((k : Nat) : Int) = sumV (vs.take k) := by unfold cellOf; rw [Int.toNat_natCast]
  rw [e]
  have h4 : sumV (vs.take 0) = 0 := by simp [sumV]
  omega
theorem size_pos {vs : List VarT} (hz : ∀ x ∈ vs, 1 ≤ x.2 ∧ x.2 ≤ 48) {v : Int} (hv0 : 0 ≤ v) (hvl : v.toNat < vs.length) : 1 ≤ sizeV vs v ∧ sizeV vs v ≤ 48 := by
  obtain ⟨k, rfl⟩ : ∃ k : Nat, v = (k : Nat) := ⟨v.toNat, by omega⟩
  rw [Int.toNat_natCast] at hvl
  rw [sizeV_at hvl]
  exact hz _ (List.getElem_mem _)

section
variable {C : Kx} {w : World} {u o : Value} {s : Es}
theorem iCell_end (hC : C.Ok) (h : Ru C w u o s) (v n : Int) (hv0 : 0 ≤ v) (hvl : v.toNat < C.vs.length) : End Try.prog 127 [.pointer (some ⟨C.b, 0, none⟩), .int .i64 v, .int .i64 n] w
    (fun r w' => (0 ≤ n ∧ n < sizeV C.vs v) ∧ (cellOf C.vs v + n).toNat < s.cells.length ∧ (∃ g cap, C.cv = .slice (some ⟨g, 0, none⟩) s.cells.length cap ∧ r = .pointer (some ⟨g, (cellOf C.vs v + n).toNat, none⟩)) ∧ Keep [] w w')
    (fun x w' => ¬ (0 ≤ n ∧ n < sizeV C.vs v) ∧ x = gvI 11 ∧ Keep [] w w') := by
  have hsz := size_pos hC.sz hv0 hvl
  have hin := rcell_in hC.sz hv0 hvl (n := n)
  have hsum := hC.sum
  have hcl := h.cl
  have hpr := hC.pr
  obtain ⟨vv', bv', hpe, hvv, hbb⟩ := hpr
  injection hpe with hpe
  have hpe2 := congrArg Array.toList hpe
  simp only [List.cons.injEq, and_true] at hpe2
  obtain ⟨hpe1, hpe2⟩ := hpe2
  rw [← hpe1] at hvv
  have hk : v = ((v.toNat : Nat) : Int) := by omega
  have hsv := sizeV_at hvl
  rw [← hk] at hsv
  have hxv : C.vs[v.toNat]? = some C.vs[v.toNat] := List.getElem?_eq_getElem hvl
  obtain ⟨vb, vq, vc, hve, hFv, hrv⟩ := hvv.at hxv
  refine end_of 36 Try.func127 rfl rfl (by simp) ?_
  refine au ?_
  by_cases hneg : n < 0
  · refine ye ?_
    refine au ?_
    refine pl_opE Try.func127 rfl rfl (opE_call (fst := []) (cap := []) rfl rfl rfl rfl (by decide +kernel) ((iGiveUp_end 11 _).mono ?_ ?_))
    · intro v w' hf
      exact hf.elim
    · rintro v w' ⟨rfl, rfl⟩
      exact ⟨by omega, rfl, Keep.refl _ _⟩
  · refine nay ?_
    refine au ?_
    refine pl_val (.slice (some ⟨vb, vq, none⟩) C.vs.length vc) rfl rfl (val_load1 hT rfl rfl rfl (h.bk.cell (by rw [← hve]; rfl))) ?_
    refine au ?_
    refine pl_val _ rfl rfl (val_index v.toNat hT rfl rfl rfl rfl hk hvl w) ?_
    refine au ?_
    refine pl_val _ rfl rfl (val_load1 hT rfl rfl rfl ((range_keep hrv h.kp (hC.hF _ hFv) (by simp)) 1 (.int .i64 C.vs[v.toNat].2) rfl)) ?_
    by_cases hge : n < sizeV C.vs v
    · obtain ⟨hi1, hi2⟩ := hin (by omega) hge
      rw [hsv] at hge
      refine nay ?_
      refine au ?_
      obtain ⟨j, hj⟩ : ∃ j : Nat, j = (cellOf C.vs v + n).toNat := ⟨_, rfl⟩
      have hjl : j < s.cells.length := by omega
      obtain ⟨g, cap, hcv, hglt, hgr⟩ := h.rc.at2 (List.getElem?_eq_getElem hjl)
      refine rn_draw (fun w' => Keep [] w w') [] hMix ?_
      have hS : Keep [] w w.drew := (Keep.refl _ _).drew
      generalize w.drew = w2 at *
      refine tk 0 ?_
      refine tk 1 ?_
      refine tk 2 ?_
      refine dr_val 3 (.slice (some ⟨g, 0, none⟩) s.cells.length cap) rfl (by decide +kernel) rfl rfl (fun w9 hS9 => val_load1 hT rfl rfl rfl ((hS9.blk h.bk (by simp)).cell (by rw [← hcv]; rfl))) hS ?_
      refine tk 4 ?_
      refine tk 5 ?_
      refine tk 6 ?_
      refine dr_val 7 (.agg #[C.vv, C.bv]) rfl (by decide +kernel) rfl rfl (fun w9 hS9 => val_load [C.vv, C.bv] hT rfl rfl rfl ((hS9.blk h.bk (by simp)).range (by rfl))) hS ?_
      refine tk 8 ?_
      refine tk 10 ?_
      refine dr_op 9 rfl (by decide +kernel) rfl rfl (opTo_call (fst := []) (cap := []) rfl rfl rfl rfl (by decide +kernel) ((cell_ret (hC.pr.keep (h.kp.tr hS) hC.hF.stays) (hC.hF.keep (h.kp.tr hS)) hC.sized v).mono ?_))
      rintro r w3 ⟨rfl, hk3⟩
      refine ⟨fun _ => hS.tr hk3, ?_⟩
      refine dr_num 11 ((j : Nat)) rfl (by decide +kernel) rfl rfl rfl rfl rfl (by simp only [ariP]; omega) ?_
      refine dr_any 12 _ rfl (by decide +kernel) rfl rfl (fun w => val_index j hT rfl rfl rfl rfl rfl hjl w) ?_
      refine tk 13 ?_
      refine dr_done (by decide +kernel) ?_
      refine au ?_
      refine rn_ret Try.func127 (.inl ⟨_, rfl, rfl⟩) ⟨⟨by omega, by rw [hsv]; exact hge⟩, by omega, ⟨g, cap, hcv, ?_⟩, hS.tr hk3⟩
      rw [← hj, Nat.zero_add, Nat.mul_one]
    · have hge' := hge
      rw [hsv] at hge
      refine ye ?_
      refine au ?_
      refine pl_opE Try.func127 rfl rfl (opE_call (fst := []) (cap := []) rfl rfl rfl rfl (by decide +kernel) ((iGiveUp_end 11 _).mono ?_ ?_))
      · intro v w' hf
        exact hf.elim
      · rintro v w' ⟨rfl, rfl⟩
        exact ⟨fun h => hge' h.2, rfl, Keep.refl _ _⟩
end
end E
end Go.Proofs.Ytmdjgejahnmfmae

/- The landed package ideal: what a tree must be for a run; contract of expr. -/
namespace Go.Proofs.Ytmdjgejahnmfmae
set_option maxRecDepth 20000
set_option maxHeartbeats 4000000
namespace E
open Go.Proofs

mutual
def rnE (nv : Nat) : ET → Prop
  | .mk op v _ l => 1 ≤ op ∧ op ≤ 8 ∧ l.length ≤ 2 ∧ (op = 2 ∨ op = 3 → 0 ≤ v ∧ v.toNat < nv) ∧ rnEs nv l
def rnEs (nv : Nat) : List ET → Prop
  | [] => True
  | t :: r => rnE nv t ∧ rnEs nv r
end
mutual
def rnS (nv : Nat) : ST → Prop
  | .mk op v e f b o => 1 ≤ op ∧ op ≤ 7 ∧ (needV op = true → 0 ≤ v ∧ v.toNat < nv) ∧ (needE op = true → rnE nv e) ∧ (needF op = true → rnE nv f) ∧ rnSs nv b ∧ rnSs nv o
def rnSs (nv : Nat) : List ST → Prop
  | [] => True
  | t :: r => rnS nv t ∧ rnSs nv r
end
theorem rnEs_at {nv : Nat} : ∀ {l : List ET} {i : Nat} {t : ET}, rnEs nv l → l[i]? = some t → rnE nv t
  | [], _, _, _, h => by simp at h
  | x :: r, 0, t, h, e => by simp at e; subst e; exact h.1
  | x :: r, i + 1, t, h, e => by simp at e; exact rnEs_at h.2 e
theorem rnSs_at {nv : Nat} : ∀ {l : List ST} {i : Nat} {t : ST}, rnSs nv l → l[i]? = some t → rnS nv t
  | [], _, _, _, h => by simp at h
  | x :: r, 0, t, h, e => by simp at e; subst e; exact h.1
  | x :: r, i + 1, t, h, e => by simp at e; exact rnSs_at h.2 e
theorem partsOf_le (op : Int) : partsOf op ≤ 2 := by
  unfold partsOf
  split
  · omega
  · split
    · omega
    · split <;> omega
mutual
theorem chkE_rn {nv : Nat} : ∀ (t : ET) {d k k' : Nat}, chkE nv t d k = .ok k' → rnE nv t
  | .mk op v n l, d, k, k', h => by
    obtain ⟨_, h1, k1, h2⟩ := chkE_inv h
    obtain ⟨a, b, c, _, e, _⟩ := ownE_inv h1
    have := partsOf_le op
    exact ⟨a, b, by omega, e, chkEs_rn l h2⟩
theorem chkEs_rn {nv : Nat} : ∀ (l : List ET) {d k k' : Nat}, chkEs nv l d k = .ok k' → rnEs nv l
  | [], _, _, _, _ => trivial
  | t :: r, d, k, k', h => by
    obtain ⟨⟨k1, h1⟩, k2, h2⟩ := chkEs_inv h
    exact ⟨chkE_rn t h1, chkEs_rn r h2⟩
end
mutual
theorem chkS_rn {nv : Nat} : ∀ (t : ST) {d k k' : Nat}, chkS nv t d k = .ok k' → rnS nv t
  | .mk op v e f b o, d, k, k', h => by
    obtain ⟨_, h1, h2, h3, ⟨k1, k2, h4⟩, k3, k4, h5⟩ := chkS_inv h
    obtain ⟨a, a', _, _, _, _, c, _⟩ := ownS_inv h1
    exact ⟨a, a', c, fun hn => (let ⟨_, _, hc⟩ := h2 hn; chkE_rn e hc), fun hn => (let ⟨_, _, hc⟩ := h3 hn; chkE_rn f hc), chkSs_rn b h4, chkSs_rn o h5⟩
theorem chkSs_rn {nv : Nat} : ∀ (l : List ST) {d k k' : Nat}, chkSs nv l d k = .ok k' → rnSs nv l
  | [], _, _, _, _ => trivial
  | t :: r, d, k, k', h => by
    obtain ⟨⟨k1, h1⟩, k2, h2⟩ := chkSs_inv h
    exact ⟨chkS_rn t h1, chkSs_rn r h2⟩
end

theorem bnd_assoc {α β γ : Type} (x : Ex α) (f : α → Ex β) (g : β → Ex γ) : bndX (bndX x f) g = bndX x fun a => bndX (f a) g := by cases x <;> rfl
theorem cellAt_of {l : List Int} {k : Int} (h : k.toNat < l.length) : l[k.toNat]? = some (cellAt l k) := by
  unfold cellAt
  rw [List.getD_eq_getElem?_getD, List.getElem?_eq_getElem h]
  rfl
theorem Rf.trB {w w' w'' : World} {k : Nat} (h : Rf w w') (hk : Keep [k] w' w'') (hge : w.heap.size ≤ k) : Rf w w'' :=
  ⟨Nat.le_trans h.size hk.size, fun hb h1 h2 => hk.blk (h.blk hb h1 h2) (by simp only [List.mem_singleton]; have := hb.lt; omega)⟩

def pts (xs : List Int) : List Value := [.int .i64 (xs.getD 0 0), .int .i64 (xs.getD 1 0)]
theorem pts_put {xs : List Int} {i : Nat} (hi : xs.length = i) (h2 : i < 2) (y : Int) : splice (pts xs) (0 + i * 1) [.int .i64 y] = pts (xs ++ [y]) := by
  match xs, hi, h2 with
  | [], rfl, _ => rfl
  | [x], rfl, _ => rfl
  | x :: z :: r, rfl, h => simp at h; omega
theorem zero_pt : ((Try.prog.info? 127).bind (·.zero)).map (·.cells) = some (pts []).toArray := by kernel_rfl
theorem zero_ie : ((Try.prog.info? 70).bind (·.zero)).map (·.cells) = some [Value.int .i64 0, .int .i64 0, .int .i64 0, .slice none 0 0].toArray := by kernel_rfl
theorem size_ie : sizeOk Try.prog 70 4 = true := by kernel_rfl
theorem neERu : 70 ≠ tRu := by decide
theorem neELg : 70 ≠ tLg := by decide
theorem nePRu : 127 ≠ tRu := by decide
theorem nePLg : 127 ≠ tLg := by decide

/-- expr does for what is smaller. -/
def ExI (C : Kx) (z : Nat) : Prop := ∀ (t : ET), szE t < z → rnE C.vs.length t → ∀ {w : World} {cs : List Value} {s : Es}, ExprV C.F C.w0 cs t → Rt C w s →
    Gos C 139 [.pointer (some ⟨C.b, 0, none⟩), .agg cs.toArray] w (evE C.vs C.fuel t s) fun a r w' => r = .int .i64 a.1 ∧ s.n ≤ a.2.n ∧ Rt C w' a.2

theorem iexpr_end {C : Kx} (hC : C.Ok) : ∀ (z : Nat), ExI C z := by
  intro z
  induction z with
  | zero => intro t ht; omega
  | succ z ihs =>
    intro t ht hrn w cs s hX h
    obtain ⟨op, v, n, l⟩ := t
    obtain ⟨lv, rfl, hE⟩ := hX.inv
    obtain ⟨a, cap, rfl⟩ := hE.form
    obtain ⟨ho1, ho8, hl2, hvr, hrl⟩ := hrn
    simp only [szE] at ht
    obtain ⟨TOT, hT0⟩ : ∃ TOT, TOT = evE C.vs C.fuel (.mk op v n l) s := ⟨_, rfl⟩
    rw [← hT0]
    have hT1 : TOT = bndX (evEs C.vs C.fuel (l.drop 0) s) fun c => bndX (tick C.fuel c.2) fun s2 => sayE C.vs op v n ([] ++ c.1) s2 := by
      rw [hT0]
      rfl
    clear hT0
    refine end_of 80 Try.func139 rfl rfl (by simp) ?_
    refine au ?_
    refine pl_op rfl rfl (opTo_boxN [.int .i64 op, .int .i64 v, .int .i64 n, .slice a l.length cap] rfl rfl rfl ?_)
    intro w1 x3 hx3 hs1 hk1 hX1
    refine au ?_
    refine pl_op rfl rfl (opTo_allocN _ rfl zero_pt ?_)
    intro w2 x5 hx5 hs2 hk2 hP2
    have hk02 := hk1.tr hk2
    have h2 := h.keep0 hk02
    have hX2 := hk2.blk hX1 (by simp)
    have hR2 : Rf w w2 := Rf.of0 hk02
    refine au ?_
    refine pl_val _ rfl rfl (val_load1 hT rfl rfl rfl (hX2.cell rfl)) ?_
    refine au ?_
    refine rn_ind (fun m σ w' => ∃ (i : Nat) (xs : List Int) (s' : Es), i ≤ l.length ∧ m = l.length - i ∧ xs.length = i ∧ σ = [(0, .pointer (some ⟨C.b, 0, none⟩)), (3, .pointer (some ⟨x3, 0, none⟩)), (5, .pointer (some ⟨x5, 0, none⟩)), (11, .slice a l.length cap), (12, .int .i64 (l.length : Nat)), (13, .int .i64 (i : Nat))] ∧
      TOT = bndX (evEs C.vs C.fuel (l.drop i) s') (fun c => bndX (tick C.fuel c.2) fun s2 => sayE C.vs op v n (xs ++ c.1) s2) ∧ Rt C w' s' ∧ s.n ≤ s'.n ∧ Rf w w' ∧ Blk w' x3 [.int .i64 op, .int .i64 v, .int .i64 n, .slice a l.length cap] 70 ∧ Blk w' x5 (pts xs) 127)
      l.length _ ?_ ⟨0, [], s, by omega, by omega, rfl, rfl, hT1, h2, Nat.le_refl _, hR2, hX2, hP2⟩ ?_
    · exact ⟨rfl, rfl, rfl, rfl, rfl, rfl, trivial⟩
    rintro m σ w6 ih ⟨i, xs, s', hi, rfl, hxs, rfl, hT6, h6, hn6, hR6, hX6, hP6⟩
    refine au ?_
    by_cases hlt : i < l.length
    · refine ye ?_
      have hxi : l[i]? = some l[i] := List.getElem?_eq_getElem hlt
      obtain ⟨b1, q1, c1, ci, hv1, hF1, hr1, hc1⟩ := hE.at hxi
      cases hv1
      have hszi := szEs_succ hxi
      have hszt := szEs_take l (i + 1)
      have hT7 : TOT = bndX (evE C.vs C.fuel l[i] s') fun y => bndX (evEs C.vs C.fuel (l.drop (i + 1)) y.2) fun c => bndX (tick C.fuel c.2) fun s2 => sayE C.vs op v n ((xs ++ [y.1]) ++ c.1) s2 := by
        rw [hT6, List.drop_eq_getElem_cons hlt]
        simp only [evEs]
        rw [bnd_assoc]
        congr 1
        funext y
        rw [bnd_assoc]
        congr 1
        funext c
        show bndX (tick C.fuel c.2) (fun s2 => sayE C.vs op v n (xs ++ y.1 :: c.1) s2) = _
        rw [show xs ++ y.1 :: c.1 = xs ++ [y.1] ++ c.1 by simp]
      refine au ?_
      refine pl_val _ rfl rfl (val_index i hT rfl rfl rfl rfl rfl hlt w6) ?_
      refine pl_val (.agg ci.toArray) rfl rfl (val_load ci hT rfl rfl (by rw [hc1.length]; rfl) (range_keep hr1 h6.kp (hC.hF _ hF1) (by simp))) ?_
      refine pl_op rfl rfl (opTo_allocN _ rfl zero_ie ?_)
      intro w7 x7 hx7 hs7 hk7 hb7
      refine au ?_
      refine pl_op rfl rfl (opTo_storeN ci rfl rfl rfl rfl (by rw [hc1.length]; exact size_ie) hb7 (by rw [hc1.length]; simp) hc1.one ?_)
      intro w8 hs8 hk8 hb8
      rw [splice_whole (by rw [hc1.length]; rfl)] at hb8
      have hk68 : Keep [] w6 w8 := hk7.trB hk8 (by omega)
      refine au ?_
      refine pl_val (.agg ci.toArray) rfl rfl (val_load ci hT rfl rfl (by rw [hc1.length]; rfl) (hb8.range (by simp))) ?_
      refine pl_opE Try.func139 rfl rfl (opE_call (fst := []) (cap := []) rfl rfl rfl rfl (by decide +kernel) (gos_step (ihs l[i] (by omega) (rnEs_at hrl hxi) hc1 (h6.keep0 hk68)) hT7 (hR6.tr (Rf.of0 hk68)) ?_))
      rintro ⟨y, s9⟩ r w9 hT9 ⟨rfl, hn9, h9⟩ hQ9 hR9
      have hX9 := hQ9.blk (hk68.blk hX6 (by simp)) neERu neELg
      have hP9 := hQ9.blk (hk68.blk hP6 (by simp)) nePRu nePLg
      have hge5 : w.heap.size ≤ x5 := by have := hk1.size; omega
      refine pl_val _ rfl rfl (val_indexArr i hT rfl rfl rfl rfl rfl (by omega) w9) ?_
      refine pl_op rfl rfl (opTo_storeN [.int .i64 y] rfl rfl rfl rfl size_rl hP9 (by simp [pts]; omega) (one_in _) ?_)
      intro w10 hs10 hk10 hb10
      rw [pts_put hxs (by omega)] at hb10
      refine au ?_
      refine pl_num (((i + 1 : Nat) : Int)) rfl rfl rfl rfl rfl (by simp only [ariP]; omega) ?_
      refine au ?_
      have h10 : Rt C w10 s9 := by
        obtain ⟨u, o, h9⟩ := h9
        refine ⟨u, o, h9.kp.trB hk10 (by have := h.kp.size; omega), hk10.blk h9.bk ?_, h9.un, h9.rc.keep hk10 (h9.rc.ne hP9 nePLg), h9.ro.keep hk10 (h9.ro.ne hP9 nePLg), h9.ap, h9.cl, h9.le, h9.ol⟩
        simp only [List.mem_singleton]
        exact Blk.ne h9.bk hP9 nePRu.symm
      have hX10 := hk10.blk hX9 (by simp only [List.mem_singleton]; exact Blk.ne hX9 hP9 (by decide))
      refine rn_sub ?_ (ih (l.length - (i + 1)) [(0, .pointer (some ⟨C.b, 0, none⟩)), (3, .pointer (some ⟨x3, 0, none⟩)), (5, .pointer (some ⟨x5, 0, none⟩)), (11, .slice (some ⟨b1, q1, none⟩) l.length cap), (12, .int .i64 (l.length : Nat)), (13, .int .i64 ((i + 1 : Nat) : Int))] w10 (by omega) ⟨i + 1, xs ++ [y], s9, by omega, rfl, by simp [hxs], rfl, hT9, h10, by dsimp only at hn9; omega, hR9.trB hk10 hge5, hX10, hb10⟩)
      exact ⟨rfl, rfl, rfl, rfl, rfl, rfl, trivial⟩
    · refine nay ?_
      rw [List.drop_of_length_le (by omega)] at hT6
      have hT7 : TOT = bndX (tick C.fuel s') fun s2 => sayE C.vs op v n xs s2 := by
        rw [hT6]
        show bndX (tick C.fuel s') (fun s2 => sayE C.vs op v n (xs ++ []) s2) = _
        rw [List.append_nil]
      clear hT6
      refine au ?_
      refine pl_opE Try.func139 rfl rfl (opE_call (fst := []) (cap := []) rfl rfl rfl rfl (by decide +kernel) (gos_step (iCount_end hC h6) hT7 hR6 ?_))
      rintro s8 r w8 hT8 ⟨rfl, hs8e, h8⟩ hQ8 hR8
      have hn8 : s.n ≤ s8.n := by rw [hs8e]; show s.n ≤ s'.n + 1; omega
      clear hs8e hT7
      have hX8 := hQ8.blk hX6 neERu neELg
      have hP8 := hQ8.blk hP6 nePRu nePLg
      refine au ?_
      refine rn_draw (fun w' => Keep [] w8 w') [] hMix ?_
      have hS : Keep [] w8 w8.drew := (Keep.refl _ _).drew
      generalize w8.drew = w9 at *
      refine dr_any 0 _ rfl (by decide +kernel) rfl rfl (fun w => val_indexArr 0 hT rfl rfl rfl rfl rfl (by omega) w) ?_
      refine dr_val 1 (.int .i64 (xs.getD 0 0)) rfl (by decide +kernel) rfl rfl (fun w9 hS9 => val_load1 hT rfl rfl rfl ((hS9.blk hP8 (by simp)).cell rfl)) hS ?_
      refine dr_any 2 _ rfl (by decide +kernel) rfl rfl (fun w => val_indexArr 1 hT rfl rfl rfl rfl rfl (by omega) w) ?_
      refine dr_val 3 (.int .i64 (xs.getD 1 0)) rfl (by decide +kernel) rfl rfl (fun w9 hS9 => val_load1 hT rfl rfl rfl ((hS9.blk hP8 (by simp)).cell rfl)) hS ?_
      refine tk 4 ?_
      refine tk 5 ?_
      refine dr_done (by decide +kernel) ?_
      replace h8 := h8.keep0 hS
      have hX9 := hS.blk hX8 (by simp)
      replace hR8 := hR8.tr (Rf.of0 hS)
      generalize hy0 : xs.getD 0 0 = y0 at *
      generalize hy1 : xs.getD 1 0 = y1 at *
      have hT9 := hT8
      unfold sayE at hT9
      rw [hy0, hy1] at hT9
      clear hT8
      refine au ?_
      refine pl_val _ rfl rfl (val_load1 hT rfl rfl rfl (hX9.cell rfl)) ?_
      refine au ?_
      by_cases h1 : op = 1
      · refine ye ?_
        rw [if_pos h1] at hT9
        refine au ?_
        refine pl_val _ rfl rfl (val_load1 hT rfl rfl rfl (hX9.cell rfl)) ?_
        refine au ?_
        exact rn_ret Try.func139 (.inl ⟨_, rfl, rfl⟩) ⟨_, hT9, ⟨rfl, hn8, h8⟩, hR8⟩
      refine nay ?_
      refine au ?_
      rw [if_neg h1] at hT9
      by_cases h2 : op = 2
      · obtain ⟨hv0, hvl⟩ := hvr (.inl h2)
        have hsz := size_pos hC.sz hv0 hvl
        refine ye ?_
        rw [if_pos h2] at hT9
        refine au ?_
        refine pl_val _ rfl rfl (val_load1 hT rfl rfl rfl (hX9.cell rfl)) ?_
        obtain ⟨u, o, h8⟩ := h8
        refine pl_opE Try.func139 rfl rfl (opE_call (fst := []) (cap := []) rfl rfl rfl rfl (by decide +kernel) ((iCell_end hC h8 v 0 hv0 hvl).mono ?_ ?_))
        rotate_left
        · rintro x w' ⟨hno, _⟩
          exfalso
          omega
        rintro r w10 ⟨_, hjl, ⟨g, cap, hcv, rfl⟩, hk10⟩
        have h10 := h8.keep0 hk10
        rw [Int.add_zero] at hjl ⊢
        obtain ⟨g', cap', hcv', hcell⟩ := h10.rc.at (cellAt_of hjl)
        have hgg : g = g' := by rw [hcv] at hcv'; injection hcv' with e1; injection e1 with e1; injection e1
        subst hgg
        refine au ?_
        refine pl_val _ rfl rfl (val_load1 hT rfl rfl rfl (hcell)) ?_
        refine au ?_
        exact rn_ret Try.func139 (.inl ⟨_, rfl, rfl⟩) ⟨_, hT9, ⟨rfl, hn8, u, o, h10⟩, hR8.tr (Rf.of0 hk10)⟩
      refine nay ?_
      refine au ?_
      rw [if_neg h2] at hT9
      by_cases h3 : op = 3
      · obtain ⟨hv0, hvl⟩ := hvr (.inr h3)
        refine ye ?_
        rw [if_pos h3] at hT9
        refine au ?_
        refine pl_val _ rfl rfl (val_load1 hT rfl rfl rfl (hX9.cell rfl)) ?_
        refine au ?_
        obtain ⟨u, o, h8⟩ := h8
        refine pl_opE Try.func139 rfl rfl (opE_call (fst := []) (cap := []) rfl rfl rfl rfl (by decide +kernel) ((iCell_end hC h8 v y0 hv0 hvl).mono ?_ ?_))
        rotate_left
        · rintro x w' ⟨hno, rfl, hk10⟩
          rw [if_neg hno] at hT9
          exact ⟨_, hT9, rfl, ⟨u, o, h8.keep0 hk10⟩, hR8.tr (Rf.of0 hk10)⟩
        rintro r w10 ⟨hyes, hjl, ⟨g, cap, hcv, rfl⟩, hk10⟩
        rw [if_pos hyes] at hT9
        have h10 := h8.keep0 hk10
        obtain ⟨g', cap', hcv', hcell⟩ := h10.rc.at (cellAt_of hjl)
        have hgg : g = g' := by rw [hcv] at hcv'; injection hcv' with e1; injection e1 with e1; injection e1
        subst hgg
        refine au ?_
        refine pl_val _ rfl rfl (val_load1 hT rfl rfl rfl (hcell)) ?_
        refine au ?_
        exact rn_ret Try.func139 (.inl ⟨_, rfl, rfl⟩) ⟨_, hT9, ⟨rfl, hn8, u, o, h10⟩, hR8.tr (Rf.of0 hk10)⟩
      refine nay ?_
      refine au ?_
      rw [if_neg h3] at hT9
      unfold ariI at hT9
      by_cases h4 : op = 4
      · refine ye ?_
        rw [if_pos h4] at hT9
        refine au ?_
        refine pl_val _ rfl rfl (val_int _ _ _ _ rfl rfl rfl (by rfl) _) ?_
        refine au ?_
        exact rn_ret Try.func139 (.inl ⟨_, rfl, rfl⟩) ⟨_, hT9, ⟨rfl, hn8, h8⟩, hR8⟩
      refine nay ?_
      refine au ?_
      rw [if_neg h4] at hT9
      by_cases h5 : op = 5
      · refine ye ?_
        rw [if_pos h5] at hT9
        refine au ?_
        refine pl_val _ rfl rfl (val_int _ _ _ _ rfl rfl rfl (by rfl) _) ?_
        refine au ?_
        exact rn_ret Try.func139 (.inl ⟨_, rfl, rfl⟩) ⟨_, hT9, ⟨rfl, hn8, h8⟩, hR8⟩
      refine nay ?_
      refine au ?_
      rw [if_neg h5] at hT9
      by_cases h6' : op = 6
      · refine ye ?_
        rw [if_pos h6'] at hT9
        refine au ?_
        refine pl_val _ rfl rfl (val_int _ _ _ _ rfl rfl rfl (by rfl) _) ?_
        refine au ?_
        exact rn_ret Try.func139 (.inl ⟨_, rfl, rfl⟩) ⟨_, hT9, ⟨rfl, hn8, h8⟩, hR8⟩
      refine nay ?_
      refine au ?_
      rw [if_neg h6'] at hT9
      by_cases h7 : op = 7
      · refine ye ?_
        rw [if_pos h7] at hT9
        refine au ?_
        refine pl_val _ rfl rfl (val_int _ _ _ _ rfl rfl rfl (by rfl) _) ?_
        refine pl_op rfl rfl (opTo_call (fst := []) (cap := []) rfl rfl rfl rfl (by decide +kernel) ((iTruth_ret _ _).mono ?_))
        rintro r w' ⟨rfl, rfl⟩
        refine au ?_
        exact rn_ret Try.func139 (.inl ⟨_, rfl, rfl⟩) ⟨_, hT9, ⟨rfl, hn8, h8⟩, hR8⟩
      refine nay ?_
      refine au ?_
      rw [if_neg h7] at hT9
      refine pl_val _ rfl rfl (val_int _ _ _ _ rfl rfl rfl (by rfl) _) ?_
      refine pl_op rfl rfl (opTo_call (fst := []) (cap := []) rfl rfl rfl rfl (by decide +kernel) ((iTruth_ret _ _).mono ?_))
      rintro r w' ⟨rfl, rfl⟩
      refine au ?_
      exact rn_ret Try.func139 (.inl ⟨_, rfl, rfl⟩) ⟨_, hT9, ⟨rfl, hn8, h8⟩, hR8⟩
end E
end Go.Proofs.Ytmdjgejahnmfmae

/- The landed package ideal: what its statements do, as mathematics; contracts of asked, chosen. -/
namespace Go.Proofs.Ytmdjgejahnmfmae
set_option maxRecDepth 20000
set_option maxHeartbeats 4000000
namespace E
open Go.Proofs

/-- What a statement's expressions say. -/
def askX (C : Kx) (op : Int) (e f : ET) (s : Es) : Ex (Int × Int × Es) :=
  bndX (if needE op then evE C.vs C.fuel e s else .ok (0, s)) fun a => bndX (if needF op then evE C.vs C.fuel f a.2 else .ok (0, a.2)) fun c => .ok (a.1, c.1, c.2)
/-- A body, if a number says so. -/
def chX (C : Kx) (x : Int) (b : List ST) (s : Es) : Ex (Bool × Es) :=
  if x = 0 then .ok (false, s) else bndX (evSs C.vs C.inp C.fuel b s) fun s3 => bndX (tick C.fuel s3) fun s4 => .ok (true, s4)
/-- What a statement does, once; whether it is to be done again. -/
def doX (C : Kx) (op v x y : Int) (b o : List ST) (s : Es) : Ex (Bool × Es) :=
  if op = 5 then chX C x b s
  else if op = 6 then bndX (chX C x b s) fun c => if c.1 = true then .ok (false, c.2) else bndX (evSs C.vs C.inp C.fuel o c.2) fun s3 => .ok (false, s3)
  else bndX (sayS C.vs C.inp op v x y s) fun s3 => .ok (false, s3)
def agX (C : Kx) : ST → Es → Ex (Bool × Es)
  | .mk op v e f b o, s => bndX (askX C op e f s) fun a => bndX (tick C.fuel a.2.2) fun s2 => doX C op v a.1 a.2.1 b o s2
/-- So often at most. -/
def loA (C : Kx) (t : ST) : Nat → Es → Ex Es
  | 0, s => .error (13, s)
  | g + 1, s => bndX (agX C t s) fun a => if a.1 = true then loA C t g a.2 else .ok a.2
theorem ask_one (C : Kx) {op : Int} (e f : ET) (s : Es) (h1 : needE op = true) (h2 : needF op = false) : askX C op e f s = bndX (evE C.vs C.fuel e s) fun a => .ok (a.1, 0, a.2) := by
  unfold askX
  rw [h1, h2]
  simp only [if_true, Bool.false_eq_true, if_false]
  cases evE C.vs C.fuel e s <;> rfl
theorem loop_loA (C : Kx) {op v : Int} {e f : ET} {b o : List ST} (h : op = 5) : ∀ (g : Nat) (s : Es), loopX C.fuel (evE C.vs C.fuel e) (evSs C.vs C.inp C.fuel b) g s = loA C (.mk op v e f b o) g s
  | 0, s => rfl
  | g + 1, s => by
    simp only [loopX, loA, agX]
    rw [ask_one C e f s (by rw [h]; rfl) (by rw [h]; rfl)]
    simp only [bnd_assoc]
    congr 1
    funext a
    show _ = bndX (tick C.fuel a.2) _
    congr 1
    funext s2
    unfold doX chX
    rw [if_pos h]
    by_cases h0 : a.1 = 0
    · rw [if_pos h0, if_pos h0]
      rfl
    · rw [if_neg h0, if_neg h0, bnd_assoc]
      congr 1
      funext s3
      rw [bnd_assoc]
      congr 1
      funext s4
      exact loop_loA C h g s4
theorem evS_once (C : Kx) {op v : Int} {e f : ET} {b o : List ST} (h : ¬ op = 5) (s : Es) : agX C (.mk op v e f b o) s = bndX (evS C.vs C.inp C.fuel (.mk op v e f b o) s) fun s1 => .ok (false, s1) := by
  simp only [agX, evS]
  rw [if_neg h]
  by_cases h6 : op = 6
  · rw [ask_one C e f s (by rw [h6]; rfl) (by rw [h6]; rfl), if_pos h6]
    simp only [bnd_assoc]
    congr 1
    funext a
    show bndX (tick C.fuel a.2) _ = _
    congr 1
    funext s2
    unfold doX chX
    rw [if_neg h, if_pos h6]
    by_cases h0 : a.1 = 0
    · rw [if_pos h0, if_pos h0]
      rfl
    · rw [if_neg h0, if_neg h0, bnd_assoc, bnd_assoc]
      congr 1
      funext s3
      rw [bnd_assoc]
      rfl
  · rw [if_neg h6]
    unfold askX
    simp only [bnd_assoc]
    congr 1
    funext a
    congr 1
    funext c
    show bndX (tick C.fuel c.2) _ = _
    congr 1
    funext s2
    unfold doX
    rw [if_neg h, if_neg h6]
theorem evS_loA (C : Kx) (t : ST) (s : Es) : evS C.vs C.inp C.fuel t s = loA C t (C.fuel + 1) s := by
  obtain ⟨op, v, e, f, b, o⟩ := t
  by_cases h : op = 5
  · rw [← loop_loA C h]
    simp only [evS]
    rw [if_pos h]
  · simp only [loA]
    rw [evS_once C h, bnd_assoc]
    exact bnd_id _

section
variable {C : Kx} {w w1 w2 : World} {u o : Value} {s : Es}
/-- One more was printed. -/
theorem Ru.print (hC : C.Ok) (h : Ru C w u o s) (hn : s.out.length + 1 ≤ s.n) {o' : Value} {n : Int} (hk1 : Keep (obs o) w w1) (hrow : RowL w1 C.w0.heap.size o' (s.out ++ [n])) (hob : ∀ x ∈ obs o', x ∈ obs o ∨ w.heap.size ≤ x) (hk : Keep [C.b] w1 w2) (hb : Blk w2 C.b (ruC C s.n u o') tRu) : Ru C w2 u o' { s with out := s.out ++ [n] } ∧ Rf w w2 := by
  have hbk1 := hk1.blk h.bk fun hm => h.ro.ne h.bk neRuL C.b hm (by simp)
  have hrc1 := h.rc.keep hk1 fun x hx hm => h.ap x hx hm
  refine ⟨⟨(h.kp.trans hk1 fun x hx => .inr (h.ro.lt x hx).1).trB hk hC.ge, hb, h.un, hrc1.keep hk (hrc1.ne hbk1 neRuL), hrow.keep hk (hrow.ne hbk1 neRuL), fun x hx hm => ?_, h.cl, h.le, by show (s.out ++ [n]).length ≤ s.n; simp; omega⟩, ?_⟩
  · rcases hob x hm with h2 | h2
    · exact h.ap x hx h2
    · have := (h.rc.lt x hx).2; omega
  · refine (Rf.of hk1 fun k hm => ?_).tr (Rf.of hk fun k hm => ⟨ruC C s.n u o, tRu, by rw [List.mem_singleton.1 hm]; exact hbk1, .inl rfl⟩)
    obtain ⟨L, hL⟩ := h.ro.blk k hm
    exact ⟨L, tLg, hL, .inr rfl⟩

theorem neSRu : 72 ≠ tRu := by decide
theorem neSLg : 72 ≠ tLg := by decide
theorem iAsked_end (hC : C.Ok) {op v : Int} {e f : ET} {b' o' : List ST} {cs : List Value} (hrn : rnS C.vs.length (.mk op v e f b' o')) (hS : StmtV C.F C.w0 cs (.mk op v e f b' o')) (h : Rt C w s) :
    Gos C 126 [.pointer (some ⟨C.b, 0, none⟩), .agg cs.toArray] w (askX C op e f s) fun a r w' => r = .tuple #[.int .i64 a.1, .int .i64 a.2.1] ∧ s.n ≤ a.2.2.n ∧ Rt C w' a.2.2 := by
  obtain ⟨_, _, _, hrE, hrF, _, _⟩ := hrn
  obtain ⟨ce, cf, bv, ov, rfl, he, hf, hb, ho⟩ := hS.inv
  obtain ⟨ba, bc, rfl⟩ := hb.form
  obtain ⟨oa, oc, rfl⟩ := ho.form
  obtain ⟨e0, e1, e2, e3, rfl⟩ := list4 he.length
  obtain ⟨f0, f1, f2, f3, rfl⟩ := list4 hf.length
  obtain ⟨TOT, hT0⟩ : ∃ TOT, TOT = askX C op e f s := ⟨_, rfl⟩
  rw [← hT0]
  unfold askX at hT0
  refine end_of 32 Try.func126 rfl rfl (by simp) ?_
  refine au ?_
  refine pl_op rfl rfl (opTo_boxN [.int .i64 op, .int .i64 v, e0, e1, e2, e3, f0, f1, f2, f3, .slice ba b'.length bc, .slice oa o'.length oc] rfl rfl rfl ?_)
  intro w1 x3 hx3 hs1 hk1 hX1
  have h1 := h.keep0 hk1
  refine au ?_
  refine pl_val _ rfl rfl (val_load1 hT rfl rfl rfl (hX1.cell rfl)) ?_
  refine pl_op rfl rfl (opTo_call (fst := []) (cap := []) rfl rfl rfl rfl (by decide +kernel) ((has_ret op w1).mono ?_))
  rintro r w1' ⟨rfl, hww⟩
  rw [hww]
  unfold hasV
  obtain ⟨qe, hqe⟩ : ∃ q, q = needE op := ⟨_, rfl⟩
  obtain ⟨qf, hqf⟩ : ∃ q, q = needF op := ⟨_, rfl⟩
  rw [← hqe] at hT0 hrE ⊢
  rw [← hqf] at hT0 hrF ⊢
  refine auj ?_
  refine rn_seq ?_
  refine rn_with (fun σ' w' => ∃ (x : Int) (s2 : Es), TOT = bndX (if qf then evE C.vs C.fuel f s2 else .ok (0, s2)) (fun c => .ok (x, c.1, c.2)) ∧ Rt C w' s2 ∧ s.n ≤ s2.n ∧ Rf w w' ∧ Blk w' x3 [.int .i64 op, .int .i64 v, e0, e1, e2, e3, f0, f1, f2, f3, .slice ba b'.length bc, .slice oa o'.length oc] 72 ∧ Sub [(0, .pointer (some ⟨C.b, 0, none⟩)), (3, .pointer (some ⟨x3, 0, none⟩)), (4, .int .i64 x), (5, .int .i64 0), (7, .bool qf)] σ') ?_ ?_
  rotate_left
  · intro fin
    refine rn_seq ?_
    refine rn_plain ?_
    cases qe with
    | false =>
      refine auj ?_
      exact fin _ _ ⟨0, s, by rw [hT0]; rfl, h1, Nat.le_refl _, Rf.of0 hk1, hX1, rfl, rfl, rfl, rfl, rfl, trivial⟩
    | true =>
      rw [if_pos rfl] at hT0
      refine auj ?_
      refine rn_plain ?_
      refine auj ?_
      refine pl_val (.agg #[e0, e1, e2, e3]) rfl rfl (val_load [e0, e1, e2, e3] hT rfl rfl rfl (hX1.range (by rfl))) ?_
      refine pl_opE Try.func126 rfl rfl (opE_call (fst := []) (cap := []) rfl rfl rfl rfl (by decide +kernel) (gos_step (iexpr_end hC (szE e + 1) e (by omega) (hrE rfl) he h1) hT0 (Rf.of0 hk1) ?_))
      rintro ⟨y, s2⟩ r w2 hT2 ⟨rfl, hn2, h2⟩ hQ2 hR2
      refine auj ?_
      exact fin _ _ ⟨y, s2, hT2, h2, hn2, hR2, hQ2.blk hX1 neSRu neSLg, rfl, rfl, rfl, rfl, rfl, trivial⟩
  · rintro σ' w2 ⟨x, s2, hT2, h2, hn2, hR2, hX2, hsub⟩
    refine rn_sub hsub ?_
    refine rn_seq ?_
    refine rn_with (fun σ' w' => ∃ (y : Int) (s3 : Es), TOT = .ok (x, y, s3) ∧ Rt C w' s3 ∧ s.n ≤ s3.n ∧ Rf w w' ∧ Sub [(4, .int .i64 x), (5, .int .i64 y)] σ') ?_ ?_
    rotate_left
    · intro fin
      refine rn_seq ?_
      refine rn_plain ?_
      cases qf with
      | false =>
        refine auj ?_
        exact fin _ _ ⟨0, s2, by rw [hT2]; rfl, h2, hn2, hR2, rfl, rfl, trivial⟩
      | true =>
        rw [if_pos rfl] at hT2
        refine auj ?_
        refine rn_plain ?_
        refine auj ?_
        refine pl_val (.agg #[f0, f1, f2, f3]) rfl rfl (val_load [f0, f1, f2, f3] hT rfl rfl rfl (hX2.range (by rfl))) ?_
        refine pl_opE Try.func126 rfl rfl (opE_call (fst := []) (cap := []) rfl rfl rfl rfl (by decide +kernel) (gos_step (iexpr_end hC (szE f + 1) f (by omega) (hrF rfl) hf h2) hT2 hR2 ?_))
        rintro ⟨y, s3⟩ r w3 hT3 ⟨rfl, hn3, h3⟩ hQ3 hR3
        refine auj ?_
        exact fin _ _ ⟨y, s3, hT3, h3, Nat.le_trans hn2 hn3, hR3, rfl, rfl, trivial⟩
    · rintro σ' w3 ⟨y, s3, hT3, h3, hn3, hR3, hsub⟩
      refine rn_sub hsub ?_
      refine au ?_
      exact rn_ret Try.func126 (.inr (.inr (.inr (.inr ⟨_, _, _, _, rfl, rfl, rfl, rfl⟩)))) ⟨(x, y, s3), hT3, ⟨rfl, hn3, h3⟩, hR3⟩
end
end E
end Go.Proofs.Ytmdjgejahnmfmae

/- The landed package ideal: contracts of chosen, again, stmts. -/
namespace Go.Proofs.Ytmdjgejahnmfmae
set_option maxRecDepth 20000
set_option maxHeartbeats 4000000
namespace E
open Go.Proofs

/-- stmts does for what is smaller. -/
def StI (C : Kx) (z : Nat) : Prop := ∀ (l : List ST), szSs l < z → rnSs C.vs.length l → ∀ {w : World} {lv : Value} {s : Es}, StmtsV C.F C.w0 lv l → Rt C w s →
    Gos C 75 [.pointer (some ⟨C.b, 0, none⟩), lv] w (evSs C.vs C.inp C.fuel l s) fun s' r w' => r = .tuple #[] ∧ s.n ≤ s'.n ∧ Rt C w' s'
/-- again does for what is smaller. -/
def AgI (C : Kx) (z : Nat) : Prop := ∀ (t : ST), szS t < z → rnS C.vs.length t → ∀ {w : World} {cs : List Value} {s : Es}, StmtV C.F C.w0 cs t → Rt C w s →
    Gos C 107 [.pointer (some ⟨C.b, 0, none⟩), .agg cs.toArray] w (agX C t s) fun a r w' => r = .bool a.1 ∧ s.n ≤ a.2.n ∧ (a.1 = true → s.n < a.2.n) ∧ Rt C w' a.2

section
variable {C : Kx} {w : World} {s : Es}
theorem iChosen_end (hC : C.Ok) {z : Nat} (hS : StI C z) (x : Int) {l : List ST} (hz : szSs l < z) (hrn : rnSs C.vs.length l) {lv : Value} (hl : StmtsV C.F C.w0 lv l) (h : Rt C w s) :
    Gos C 129 [.pointer (some ⟨C.b, 0, none⟩), .int .i64 x, lv] w (chX C x l s) fun a r w' => r = .bool a.1 ∧ s.n ≤ a.2.n ∧ (a.1 = true → s.n < a.2.n) ∧ Rt C w' a.2 := by
  obtain ⟨la, lc, rfl⟩ := hl.form
  obtain ⟨TOT, hT0⟩ : ∃ TOT, TOT = chX C x l s := ⟨_, rfl⟩
  rw [← hT0]
  unfold chX at hT0
  refine end_of 16 Try.func129 rfl rfl (by simp) ?_
  refine au ?_
  by_cases h0 : x = 0
  · refine ye ?_
    rw [if_pos h0] at hT0
    refine au ?_
    exact rn_ret Try.func129 (.inl ⟨_, rfl, rfl⟩) ⟨_, hT0, ⟨rfl, Nat.le_refl _, fun h => (by cases h), h⟩, Rf.refl _⟩
  · refine nay ?_
    rw [if_neg h0] at hT0
    refine au ?_
    refine pl_opE Try.func129 rfl rfl (opE_call (fst := []) (cap := []) rfl rfl rfl rfl (by decide +kernel) (gos_step (hS l hz hrn hl h) hT0 (Rf.refl _) ?_))
    rintro s1 r w1 hT1 ⟨rfl, hn1, h1⟩ hQ1 hR1
    refine au ?_
    refine pl_opE Try.func129 rfl rfl (opE_call (fst := []) (cap := []) rfl rfl rfl rfl (by decide +kernel) (gos_step (iCount_end hC h1) hT1 hR1 ?_))
    rintro s2 r w2 hT2 ⟨rfl, hs2, h2⟩ hQ2 hR2
    have hn2 : s.n < s2.n := by rw [hs2]; show s.n < s1.n + 1; omega
    refine au ?_
    exact rn_ret Try.func129 (.inl ⟨_, rfl, rfl⟩) ⟨_, hT2, ⟨rfl, Nat.le_of_lt hn2, fun _ => hn2, h2⟩, hR2⟩

theorem iAgain_end (hC : C.Ok) {z : Nat} (hS : StI C z) : AgI C (z + 1) := by
  intro t ht hrn w cs s hSt h
  obtain ⟨op, v, e, f, b', o'⟩ := t
  have hSt0 := hSt
  have hrn0 := hrn
  obtain ⟨ho1, ho7, hvr, hrE, hrF, hrb, hro⟩ := hrn
  obtain ⟨ce, cf, bv, ov, rfl, he, hf, hb, ho⟩ := hSt.inv
  obtain ⟨ba, bc, rfl⟩ := hb.form
  obtain ⟨oa, oc, rfl⟩ := ho.form
  obtain ⟨e0, e1, e2, e3, rfl⟩ := list4 he.length
  obtain ⟨f0, f1, f2, f3, rfl⟩ := list4 hf.length
  simp only [szS] at ht
  obtain ⟨TOT, hT0⟩ : ∃ TOT, TOT = agX C (.mk op v e f b' o') s := ⟨_, rfl⟩
  rw [← hT0]
  simp only [agX] at hT0
  refine end_of 76 Try.func107 rfl rfl (by simp) ?_
  refine au ?_
  refine pl_op rfl rfl (opTo_boxN [.int .i64 op, .int .i64 v, e0, e1, e2, e3, f0, f1, f2, f3, .slice ba b'.length bc, .slice oa o'.length oc] rfl rfl rfl ?_)
  intro w1 x3 hx3 hs1 hk1 hX1
  have h1 := h.keep0 hk1
  refine au ?_
  refine pl_val (.agg #[.int .i64 op, .int .i64 v, e0, e1, e2, e3, f0, f1, f2, f3, .slice ba b'.length bc, .slice oa o'.length oc]) rfl rfl (val_load [.int .i64 op, .int .i64 v, e0, e1, e2, e3, f0, f1, f2, f3, .slice ba b'.length bc, .slice oa o'.length oc] hT rfl rfl rfl (hX1.range (by rfl))) ?_
  refine pl_opE Try.func107 rfl rfl (opE_call (fst := []) (cap := []) rfl rfl rfl rfl (by decide +kernel) (gos_step (iAsked_end hC hrn0 hSt0 h1) hT0 (Rf.of0 hk1) ?_))
  rintro ⟨x, y, s2⟩ r w2 hT2 ⟨rfl, hn2, h2⟩ hQ2 hR2
  have hX2 := hQ2.blk hX1 neSRu neSLg
  dsimp only at hT2 hn2 h2
  have hol2 : s2.out.length ≤ s2.n := let ⟨_, _, h⟩ := h2; h.ol
  refine au ?_
  refine pl_opE Try.func107 rfl rfl (opE_call (fst := []) (cap := []) rfl rfl rfl rfl (by decide +kernel) (gos_step (iCount_end hC h2) hT2 hR2 ?_))
  rintro s3 r w3 hT3 ⟨rfl, hs3e, h3⟩ hQ3 hR3
  have hX3 := hQ3.blk hX2 neSRu neSLg
  have hn3 : s.n ≤ s3.n := by rw [hs3e]; show s.n ≤ s2.n + 1; omega
  have hol3 : s3.out.length + 1 ≤ s3.n := by rw [hs3e]; show s2.out.length + 1 ≤ s2.n + 1; omega
  clear hs3e hT2 hT0
  unfold doX at hT3
  refine au ?_
  refine pl_val _ rfl rfl (val_load1 hT rfl rfl rfl (hX3.cell rfl)) ?_
  refine au ?_
  by_cases c1 : op = 1
  · obtain ⟨hv0, hvl⟩ := hvr (by rw [c1]; rfl)
    have hsz := size_pos hC.sz hv0 hvl
    refine ye ?_
    rw [if_neg (by omega), if_neg (by omega)] at hT3
    unfold sayS at hT3
    rw [if_pos c1] at hT3
    refine au ?_
    refine pl_val _ rfl rfl (val_load1 hT rfl rfl rfl (hX3.cell rfl)) ?_
    obtain ⟨u, o, h3⟩ := h3
    refine pl_opE Try.func107 rfl rfl (opE_call (fst := []) (cap := []) rfl rfl rfl rfl (by decide +kernel) ((iCell_end hC h3 v 0 hv0 hvl).mono ?_ ?_))
    rotate_left
    · rintro x w' ⟨hno, _⟩
      exfalso
      omega
    rintro r w4 ⟨_, hjl, ⟨g, cap, hcv, rfl⟩, hk4⟩
    have h4 := h3.keep0 hk4
    rw [Int.add_zero] at hjl ⊢
    obtain ⟨cur, hcb, hcl, hput⟩ := h4.set hjl hcv
    refine au ?_
    refine pl_op rfl rfl (opTo_storeN [.int .i64 x] rfl rfl rfl rfl size_rl hcb (by simp; omega) (one_in _) ?_)
    intro w5 hs5 hk5 hb5
    obtain ⟨h5, hR5⟩ := hput hk5 hb5
    refine au ?_
    exact rn_ret Try.func107 (.inl ⟨_, rfl, rfl⟩) ⟨_, hT3, ⟨rfl, hn3, fun h => (by cases h), u, o, h5⟩, (hR3.tr (Rf.of0 hk4)).tr hR5⟩
  refine nay ?_
  refine au ?_
  by_cases c2 : op = 2
  · obtain ⟨hv0, hvl⟩ := hvr (by rw [c2]; rfl)
    refine ye ?_
    rw [if_neg (by omega), if_neg (by omega)] at hT3
    unfold sayS at hT3
    rw [if_neg c1, if_pos c2] at hT3
    refine au ?_
    refine pl_val _ rfl rfl (val_load1 hT rfl rfl rfl (hX3.cell rfl)) ?_
    refine au ?_
    obtain ⟨u, o, h3⟩ := h3
    refine pl_opE Try.func107 rfl rfl (opE_call (fst := []) (cap := []) rfl rfl rfl rfl (by decide +kernel) ((iCell_end hC h3 v x hv0 hvl).mono ?_ ?_))
    rotate_left
    · rintro x' w' ⟨hno, rfl, hk4⟩
      rw [if_neg hno] at hT3
      exact ⟨_, hT3, rfl, ⟨u, o, h3.keep0 hk4⟩, hR3.tr (Rf.of0 hk4)⟩
    rintro r w4 ⟨hyes, hjl, ⟨g, cap, hcv, rfl⟩, hk4⟩
    rw [if_pos hyes] at hT3
    have h4 := h3.keep0 hk4
    obtain ⟨cur, hcb, hcl, hput⟩ := h4.set hjl hcv
    refine au ?_
    refine pl_op rfl rfl (opTo_storeN [.int .i64 y] rfl rfl rfl rfl size_rl hcb (by simp; omega) (one_in _) ?_)
    intro w5 hs5 hk5 hb5
    obtain ⟨h5, hR5⟩ := hput hk5 hb5
    refine au ?_
    exact rn_ret Try.func107 (.inl ⟨_, rfl, rfl⟩) ⟨_, hT3, ⟨rfl, hn3, fun h => (by cases h), u, o, h5⟩, (hR3.tr (Rf.of0 hk4)).tr hR5⟩
  refine nay ?_
  refine au ?_
  by_cases c3 : op = 3
  · refine ye ?_
    rw [if_neg (by omega), if_neg (by omega)] at hT3
    unfold sayS at hT3
    rw [if_neg c1, if_neg c2, if_pos c3] at hT3
    obtain ⟨u, o, h3⟩ := h3
    have hfu := hC.fu
    have hle3 := h3.le
    obtain ⟨oa', oc', rfl⟩ := h3.ro.form
    refine au ?_
    refine pl_val _ rfl rfl (val_load1 hT rfl rfl rfl (h3.bk.cell rfl)) ?_
    refine au ?_
    refine pl_op rfl rfl (opTo_sliceN tLg [.int .i64 x] rfl rfl (slice_lg x) ?_)
    intro w4 g hg hs4 hk4 hb4
    have h4 := h3.keep0 hk4
    refine pl_op rfl rfl (opTo_app C.w0.heap.size tLg 1 8 (lgs s3.out) [.int .i64 x] rfl rfl rfl app_lg h4.ro (hb4.range rfl) rfl (one_v rfl) (by decide) (by unfold maxLen; omega) (by omega) h4.kp.size ?_)
    intro g2 cap w5 hown5 hcase
    have hrow5 : RowL w5 C.w0.heap.size (.slice (some ⟨g2, 0, none⟩) (s3.out.length + 1) cap) (s3.out ++ [x]) := by
      have e1 : (s3.out ++ [x]).length = s3.out.length + 1 := by simp
      have e2 : lgs (s3.out ++ [x]) = lgs s3.out ++ [.int .i64 x] := by rw [lgs_app]; rfl
      unfold RowL
      rw [e1, e2]
      exact hown5
    have hk5 : Keep (obs (.slice oa' s3.out.length oc')) w4 w5 := by
      rcases hcase with ⟨h3, _, h4⟩ | ⟨_, h4, _⟩
      · rw [obs, h3]; exact h4
      · exact h4.of0
    have hob : ∀ x ∈ obs (.slice (some ⟨g2, 0, none⟩) (s3.out.length + 1) cap), x ∈ obs (.slice oa' s3.out.length oc') ∨ w4.heap.size ≤ x := fun x hx => by
      have hx : x = g2 := by simpa [obs, Value.ownBlock] using hx
      subst hx
      rcases hcase with ⟨h3, _, _⟩ | ⟨h3, _, _⟩
      · exact .inl (mem_obs.2 h3)
      · exact .inr (by omega)
    refine au ?_
    refine pl_op rfl rfl (opTo_storeN [.slice (some ⟨g2, 0, none⟩) (s3.out.length + 1) cap] rfl rfl rfl rfl size_rs (hk5.blk h4.bk fun hm => h4.ro.ne h4.bk neRuL C.b hm (by simp)) (by simp [ruC]) (one_v rfl) ?_)
    intro w6 hs6 hk6 hb6
    obtain ⟨h6, hR6⟩ := h4.print hC hol3 hk5 hrow5 hob hk6 hb6
    refine au ?_
    exact rn_ret Try.func107 (.inl ⟨_, rfl, rfl⟩) ⟨_, hT3, ⟨rfl, hn3, fun h => (by cases h), u, _, h6⟩, (hR3.tr (Rf.of0 hk4)).tr hR6⟩
  refine nay ?_
  refine au ?_
  by_cases c4 : op = 4
  · obtain ⟨hv0, hvl⟩ := hvr (by rw [c4]; rfl)
    have hsz := size_pos hC.sz hv0 hvl
    refine ye ?_
    rw [if_neg (by omega), if_neg (by omega)] at hT3
    have hT4 : TOT = bndX (readX C.inp s3) fun a => .ok (false, { a.2 with cells := s3.cells.set (cellOf C.vs v).toNat a.1 }) := by
      rw [hT3]
      unfold sayS readX
      rw [if_neg c1, if_neg c2, if_neg c3, if_pos c4]
      split <;> rfl
    refine au ?_
    refine pl_val _ rfl rfl (val_load1 hT rfl rfl rfl (hX3.cell rfl)) ?_
    obtain ⟨u, o, h3⟩ := h3
    refine pl_opE Try.func107 rfl rfl (opE_call (fst := []) (cap := []) rfl rfl rfl rfl (by decide +kernel) ((iCell_end hC h3 v 0 hv0 hvl).mono ?_ ?_))
    rotate_left
    · rintro x w' ⟨hno, _⟩
      exfalso
      omega
    rintro r w4 ⟨_, hjl, ⟨g, cap, hcv, rfl⟩, hk4⟩
    rw [Int.add_zero] at hjl ⊢
    refine au ?_
    refine pl_opE Try.func107 rfl rfl (opE_call (fst := []) (cap := []) rfl rfl rfl rfl (by decide +kernel) (gos_step (iRead_end hC ⟨u, o, h3.keep0 hk4⟩) hT4 (hR3.tr (Rf.of0 hk4)) ?_))
    rintro ⟨y', s5⟩ r w5 hT5 ⟨rfl, hs5, u5, o5, h5⟩ hQ5 hR5
    dsimp only at hs5 hT5 h5
    subst hs5
    obtain ⟨cur, hcb, hcl, hput⟩ := h5.set (j := (cellOf C.vs v).toNat) hjl hcv
    refine au ?_
    refine pl_op rfl rfl (opTo_storeN [.int .i64 y'] rfl rfl rfl rfl size_rl hcb (by simp; omega) (one_in _) ?_)
    intro w6 hs6 hk6 hb6
    obtain ⟨h6, hR6⟩ := hput hk6 hb6
    refine au ?_
    exact rn_ret Try.func107 (.inl ⟨_, rfl, rfl⟩) ⟨_, hT5, ⟨rfl, hn3, fun h => (by cases h), u5, o5, h6⟩, hR5.tr hR6⟩
  refine nay ?_
  refine au ?_
  by_cases c5 : op = 5
  · refine ye ?_
    rw [if_pos c5] at hT3
    refine au ?_
    refine pl_val _ rfl rfl (val_load1 hT rfl rfl rfl (hX3.cell rfl)) ?_
    refine pl_opE Try.func107 rfl rfl (opE_call (fst := []) (cap := []) rfl rfl rfl rfl (by decide +kernel) (gos_step (iChosen_end hC hS x (by omega) hrb hb h3) (hT3.trans (bnd_id _)) hR3 ?_))
    rintro ⟨q, s4⟩ r w4 hT4 ⟨rfl, hn4, hlt4, h4⟩ hQ4 hR4
    refine au ?_
    exact rn_ret Try.func107 (.inl ⟨_, rfl, rfl⟩) ⟨_, hT4, ⟨rfl, Nat.le_trans hn3 hn4, fun h => Nat.lt_of_le_of_lt hn3 (hlt4 h), h4⟩, hR4⟩
  refine nay ?_
  refine au ?_
  rw [if_neg c5] at hT3
  by_cases c6 : op = 6
  · refine ye ?_
    rw [if_pos c6] at hT3
    refine au ?_
    refine pl_val _ rfl rfl (val_load1 hT rfl rfl rfl (hX3.cell rfl)) ?_
    refine pl_opE Try.func107 rfl rfl (opE_call (fst := []) (cap := []) rfl rfl rfl rfl (by decide +kernel) (gos_step (iChosen_end hC hS x (by omega) hrb hb h3) hT3 hR3 ?_))
    rintro ⟨q, s4⟩ r w4 hT4 ⟨rfl, hn4, hlt4, h4⟩ hQ4 hR4
    dsimp only at hT4 hn4 h4
    have hX4 := hQ4.blk hX3 neSRu neSLg
    cases q with
    | true =>
      rw [if_pos rfl] at hT4
      refine au ?_
      exact rn_ret Try.func107 (.inl ⟨_, rfl, rfl⟩) ⟨_, hT4, ⟨rfl, Nat.le_trans hn3 hn4, fun h => (by cases h), h4⟩, hR4⟩
    | false =>
      rw [if_neg (by decide)] at hT4
      refine au ?_
      refine pl_val _ rfl rfl (val_load1 hT rfl rfl rfl (hX4.cell rfl)) ?_
      refine pl_opE Try.func107 rfl rfl (opE_call (fst := []) (cap := []) rfl rfl rfl rfl (by decide +kernel) (gos_step (hS o' (by omega) hro ho h4) hT4 hR4 ?_))
      rintro s5 r w5 hT5 ⟨rfl, hn5, h5⟩ hQ5 hR5
      refine au ?_
      exact rn_ret Try.func107 (.inl ⟨_, rfl, rfl⟩) ⟨_, hT5, ⟨rfl, Nat.le_trans hn3 (Nat.le_trans hn4 hn5), fun h => (by cases h), h5⟩, hR5⟩
  refine nay ?_
  refine au ?_
  rw [if_neg c6] at hT3
  unfold sayS at hT3
  rw [if_neg c1, if_neg c2, if_neg c3, if_neg c4] at hT3
  exact rn_ret Try.func107 (.inl ⟨_, rfl, rfl⟩) ⟨_, hT3, ⟨rfl, hn3, fun h => (by cases h), h3⟩, hR3⟩
end
end E
end Go.Proofs.Ytmdjgejahnmfmae

/- The landed package ideal: contracts of stmts, run, Run. -/
namespace Go.Proofs.Ytmdjgejahnmfmae
set_option maxRecDepth 20000
set_option maxHeartbeats 4000000
namespace E
open Go.Proofs

def zst : List Value := scells 0 0 jz jz (.slice none 0 0) (.slice none 0 0)
theorem zero_is : ((Try.prog.info? 72).bind (·.zero)).map (·.cells) = some zst.toArray := by kernel_rfl
theorem size_is : sizeOk Try.prog 72 12 = true := by kernel_rfl

theorem iStmts_end {C : Kx} (hC : C.Ok) {z : Nat} (hz0 : z ≤ 100000) (hA : AgI C z) : StI C z := by
  intro l hz hrn w lv s hl h
  obtain ⟨la, lc, rfl⟩ := hl.form
  obtain ⟨TOT, hT0⟩ : ∃ TOT, TOT = evSs C.vs C.inp C.fuel (l.drop 0) s := ⟨_, rfl⟩
  rw [List.drop_zero] at hT0
  rw [← hT0]
  have hlen := szSs_len l
  refine end_of 16 Try.func75 rfl rfl (by simp) ?_
  refine au ?_
  refine rn_ind (fun m σ w' => ∃ (i : Nat) (s' : Es), i ≤ l.length ∧ m = l.length - i ∧ σ = [(0, .pointer (some ⟨C.b, 0, none⟩)), (6, .slice la l.length lc), (7, .int .i64 (l.length : Nat)), (8, .int .i64 (i : Nat))] ∧ TOT = evSs C.vs C.inp C.fuel (l.drop i) s' ∧ Rt C w' s' ∧ s.n ≤ s'.n ∧ Rf w w')
    l.length _ ?_ ⟨0, s, by omega, by omega, rfl, by rw [List.drop_zero]; exact hT0, h, Nat.le_refl _, Rf.refl _⟩ ?_
  · exact ⟨rfl, rfl, rfl, rfl, trivial⟩
  rintro m σ w6 ih ⟨i, s', hi, rfl, rfl, hT6, h6, hn6, hR6⟩
  refine au ?_
  by_cases hlt : i < l.length
  · refine ye ?_
    have hxi : l[i]? = some l[i] := List.getElem?_eq_getElem hlt
    obtain ⟨b1, q1, c1, ci, hv1, hF1, hr1, hc1⟩ := hl.at hxi
    cases hv1
    have hszi := szSs_at hxi
    have hT7 : TOT = bndX (loA C l[i] (C.fuel + 1) s') fun s1 => evSs C.vs C.inp C.fuel (l.drop (i + 1)) s1 := by
      rw [hT6, List.drop_eq_getElem_cons hlt, ← evS_loA]
      rfl
    refine au ?_
    refine pl_val _ rfl rfl (val_index i hT rfl rfl rfl rfl rfl hlt w6) ?_
    refine pl_val (.agg ci.toArray) rfl rfl (val_load ci hT rfl rfl (by rw [hc1.length]; rfl) (range_keep hr1 h6.kp (hC.hF _ hF1) (by simp))) ?_
    refine pl_op rfl rfl (opTo_allocN _ rfl zero_is ?_)
    intro w7 x7 hx7 hs7 hk7 hb7
    refine pl_op rfl rfl (opTo_storeN ci rfl rfl rfl rfl (by rw [hc1.length]; exact size_is) hb7 (by rw [hc1.length]; decide) hc1.one ?_)
    intro w8 hs8 hk8 hb8
    rw [splice_whole (by rw [hc1.length]; rfl)] at hb8
    have hk68 : Keep [] w6 w8 := hk7.trB hk8 (by omega)
    refine au ?_
    refine rn_ind (fun m σ w' => ∃ (s9 : Es), C.fuel < m + s9.n ∧ σ = [(0, .pointer (some ⟨C.b, 0, none⟩)), (5, .pointer (some ⟨x7, 0, none⟩)), (6, .slice (some ⟨b1, q1, none⟩) l.length lc), (7, .int .i64 (l.length : Nat)), (8, .int .i64 (i : Nat))] ∧
      TOT = bndX (loA C l[i] m s9) (fun s1 => evSs C.vs C.inp C.fuel (l.drop (i + 1)) s1) ∧ Rt C w' s9 ∧ s.n ≤ s9.n ∧ Rf w w' ∧ Blk w' x7 ci 72)
      (C.fuel + 1) _ ?_ ⟨s', by omega, rfl, hT7, h6.keep0 hk68, hn6, hR6.tr (Rf.of0 hk68), hb8⟩ ?_
    · exact ⟨rfl, rfl, rfl, rfl, rfl, trivial⟩
    rintro m σ w9 ih2 ⟨s9, hm9, rfl, hT9, h9, hn9, hR9, hX9⟩
    have hle9 := h9.le
    obtain ⟨g, rfl⟩ : ∃ g, m = g + 1 := ⟨m - 1, by omega⟩
    simp only [loA] at hT9
    rw [bnd_assoc] at hT9
    refine au ?_
    refine pl_val (.agg ci.toArray) rfl rfl (val_load ci hT rfl rfl (by rw [hc1.length]; rfl) (hX9.range (by simp))) ?_
    refine pl_opE Try.func75 rfl rfl (opE_call (fst := []) (cap := []) rfl rfl rfl rfl (by decide +kernel) (gos_step (hA l[i] (by omega) (rnSs_at hrn hxi) hc1 h9) hT9 hR9 ?_))
    rintro ⟨q, s10⟩ r w10 hT10 ⟨rfl, hn10, hlt10, h10⟩ hQ10 hR10
    dsimp only at hT10 hn10 hlt10 h10
    have hX10 := hQ10.blk hX9 neSRu neSLg
    cases q with
    | true =>
      rw [if_pos rfl] at hT10
      have hlt10 := hlt10 rfl
      refine au ?_
      refine rn_sub ?_ (ih2 g _ w10 (by omega) ⟨s10, by omega, rfl, hT10, h10, by omega, hR10, hX10⟩)
      exact ⟨rfl, rfl, rfl, rfl, rfl, trivial⟩
    | false =>
      rw [if_neg (by decide)] at hT10
      refine au ?_
      refine pl_num (((i + 1 : Nat) : Int)) rfl rfl rfl rfl rfl (by simp only [ariP]; omega) ?_
      refine au ?_
      refine rn_sub ?_ (ih (l.length - (i + 1)) [(0, .pointer (some ⟨C.b, 0, none⟩)), (6, .slice (some ⟨b1, q1, none⟩) l.length lc), (7, .int .i64 (l.length : Nat)), (8, .int .i64 ((i + 1 : Nat) : Int))] w10 (by omega) ⟨i + 1, s10, by omega, rfl, rfl, hT10, h10, by omega, hR10⟩)
      exact ⟨rfl, rfl, rfl, rfl, trivial⟩
  · refine nay ?_
    rw [List.drop_of_length_le (by omega)] at hT6
    refine au ?_
    exact rn_end Try.func75 (.inr (.inl ⟨rfl, rfl⟩)) ⟨s', hT6, ⟨rfl, hn6, h6⟩, hR6⟩
theorem iStmts_all {C : Kx} (hC : C.Ok) : ∀ (z : Nat), z ≤ 100000 → StI C z
  | 0, _ => fun l hz => by omega
  | z + 1, h => iStmts_end hC h (iAgain_end hC (iStmts_all hC z (by omega)))

/-! ### A run; what gave up is caught -/
theorem iCaught {w : World} {x2 : Nat} (hb : Blk w x2 [.int .i64 0] 3) (c : Nat) :
    CallsD Try.prog 74 [Value.pointer (some ⟨x2, 0, none⟩)].toArray (.panicking (pan (gvI c))) w fun en u' w' => en = .returned (.tuple #[]) ∧ u' = .panicking [{ v := gvI c, recovered := true }] ∧ Blk w' x2 [.int .i64 (c : Nat)] 3 ∧ Keep [x2] w w' := by
  refine callsD_of 8 Try.func74 rfl rfl (by simp) ?_
  refine rnD_seq ?_
  refine rnD_recover (gvI c) rfl rfl rfl (fun a ha => rfl) ?_
  refine au ?_
  refine pl_val _ rfl rfl (val_errSome _ _ (by decide +kernel) rfl rfl w) ?_
  refine au ?_
  refine pl_val _ rfl rfl (val_assert (by decide +kernel) rfl rfl w) ?_
  refine pl_val _ rfl rfl (val_field1 0 [.int .i64 (c : Nat)] rfl rfl (by decide +kernel) rfl w) ?_
  refine pl_op rfl rfl (opTo_storeN [.int .i64 (c : Nat)] rfl rfl rfl rfl size_rn hb (by simp) (one_in _) ?_)
  intro w1 hs1 hk1 hb1
  rw [splice_whole (by rfl)] at hb1
  refine au ?_
  exact rn_endX Try.func74 rfl (.inr (.inl ⟨rfl, rfl⟩)) ⟨rfl, rfl, hb1, hk1⟩
theorem iUncaught (w : World) (x2 : Nat) :
    CallsD Try.prog 74 [Value.pointer (some ⟨x2, 0, none⟩)].toArray .returning w fun en u' w' => en = .returned (.tuple #[]) ∧ u' = .returning ∧ w' = w := by
  refine callsD_of 8 Try.func74 rfl rfl (by simp) ?_
  refine rnD_seq ?_
  refine rnD_norec rfl rfl rfl (fun a ha => rfl) ?_
  refine au ?_
  refine pl_val _ rfl rfl (val_errNil (by decide +kernel) rfl rfl w) ?_
  refine au ?_
  exact rn_endX Try.func74 rfl (.inr (.inl ⟨rfl, rfl⟩)) ⟨rfl, rfl, rfl⟩
end E
end Go.Proofs.Ytmdjgejahnmfmae

/- The landed package ideal: contracts of run, Run; what the laws take of it. -/
namespace Go.Proofs.Ytmdjgejahnmfmae
set_option maxRecDepth 20000
set_option maxHeartbeats 4000000
namespace E
open Go.Proofs

theorem zero_in : ((Try.prog.info? 3).bind (·.zero)).map (·.cells) = some [Value.int .i64 0].toArray := by kernel_rfl
theorem neIRu : 3 ≠ tRu := by decide
theorem neILg : 3 ≠ tLg := by decide
theorem loadVar_one {P : Program} {T : Tbl} {w : World} {t b i : Nat} {v : Value} (hT : T.check P = true) (ht : find T.one t = some ()) (hc : w.cell? ⟨b, i, none⟩ = some v) : (loadVar t ⟨b, i, none⟩).run P w = .ok v w := by
  have hs := Tbl.one_ok hT ht
  unfold oneOk at hs
  cases hu : P.underlying t with
  | none => simp [hu] at hs
  | some d =>
    have hagg : (isAgg t).run P w = .ok false w := by
      unfold isAgg
      rw [Sem.run_bind, run_underlying hu w]
      cases d <;> simp_all
    simp [loadVar, hagg, hc]
theorem Rt.other {C : Kx} {w w' : World} {s : Es} {x : Nat} {L : List Value} {e : TypeId} (h : Rt C w s) (hx : C.w0.heap.size ≤ x) (hb : Blk w x L e) (h1 : e ≠ tRu) (h2 : e ≠ tLg) (hk : Keep [x] w w') : Rt C w' s := by
  obtain ⟨u, o, h⟩ := h
  refine ⟨u, o, h.kp.trB hk hx, hk.blk h.bk ?_, h.un, h.rc.keep hk (h.rc.ne hb h2), h.ro.keep hk (h.ro.ne hb h2), h.ap, h.cl, h.le, h.ol⟩
  simp only [List.mem_singleton]
  exact Blk.ne h.bk hb h1.symm

section
variable {C : Kx} {w : World} {s : Es}
theorem iRun_ret (hC : C.Ok) (hz : szSs C.bd ≤ 1000) (hrn : rnSs C.vs.length C.bd) (h : Rt C w s) :
    Ret Try.prog 45 [.pointer (some ⟨C.b, 0, none⟩)] w fun r w' => ∃ (c : Nat) (s' : Es), r = .int .i64 (c : Nat) ∧ (c, s'.out, s'.cells, s'.n) = resX (evP C.vs C.inp C.fuel C.bd s) ∧ Rt C w' s' ∧ Rf w w' := by
  obtain ⟨vv', bv', hpe, _, hbb⟩ := hC.pr
  injection hpe with hpe
  have hpe2 := congrArg Array.toList hpe
  simp only [List.cons.injEq, and_true] at hpe2
  obtain ⟨_, hpe2⟩ := hpe2
  rw [← hpe2] at hbb
  refine ret_of 15 Try.func45 rfl rfl (by simp) ?_
  refine au ?_
  refine pl_op rfl rfl (opTo_allocN _ rfl zero_in ?_)
  intro w1 x2 hx2 hs1 hk1 hc1
  have h1 := h.keep0 hk1
  have hxw : C.w0.heap.size ≤ x2 := by have := h.kp.size; omega
  refine au ?_
  refine pl_defer (d := ⟨.fn (.func 74) #[.pointer (some ⟨x2, 0, none⟩)], #[]⟩) rfl rfl (fun a ha => ?_) ?_
  · have := ha.has 3 _ rfl
    simp [execOp, resolve, Act.eval, this, Deferred.ofValue]
  refine au ?_
  obtain ⟨u1, o1, hu1⟩ := h1
  refine pl_val _ rfl rfl (val_load1 hT rfl rfl rfl (hu1.bk.cell rfl)) ?_
  obtain ⟨TOT, hT0⟩ : ∃ TOT, TOT = evP C.vs C.inp C.fuel C.bd s := ⟨_, rfl⟩
  rw [← hT0]
  unfold evP at hT0
  refine pl_opD Try.func45 rfl rfl rfl (opE_call (fst := []) (cap := []) rfl rfl rfl rfl (by decide +kernel) (End.mono (gos_step (KK := fun r w' => ∃ s1, TOT = tick C.fuel s1 ∧ Rt C w' s1 ∧ Rf w1 w' ∧ r = .tuple #[]) (iStmts_all hC (szSs C.bd + 1) (by omega) C.bd (by omega) hrn hbb ⟨u1, o1, hu1⟩) hT0 (Rf.refl w1) (fun s1 r w' hX ⟨hr, _, h⟩ _ hR => ⟨s1, hX, h, hR, hr⟩)) ?_ ?_))
  rotate_left
  · rintro v w4 ⟨e, hX, rfl, h4, hR4⟩
    intro ac ha
    have hc4 := hR4.blk hc1 neIRu neILg
    refine ⟨fun h => (by cases h), .func 74, _, 74, [Value.pointer (some ⟨x2, 0, none⟩)].toArray, rfl, rfl, ?_⟩
    refine CallsD.mono' (iCaught hc4 e.1) ?_
    rintro en u' w5 ⟨rfl, rfl, hc5, hk5⟩
    refine ⟨.int .i64 (e.1 : Nat), ?_, .inl ⟨_, rfl, e.1, e.2, rfl, by rw [hX]; rfl, h4.other hxw hc4 neIRu neILg hk5, ((Rf.of0 hk1).tr hR4).trB hk5 (by omega)⟩⟩
    have i2 := ha.has 2 _ rfl
    have l2 : (loadVar 3 ⟨x2, 0, none⟩).run Try.prog w5 = .ok (.int .i64 (e.1 : Nat)) w5 := loadVar_one hT rfl (hc5.cell rfl)
    show (results Try.f45 ac.tmps).run _ _ = _
    simp only [results, show Try.f45.results = #[.cell 2 3] from rfl]
    simp [i2, asAddr, l2]
  rintro r w2 ⟨s1, hT2, h2, hR2, rfl⟩
  refine au ?_
  refine pl_opD Try.func45 rfl rfl rfl (opE_call (fst := []) (cap := []) rfl rfl rfl rfl (by decide +kernel) (End.mono (gos_step (KK := fun r w' => ∃ s1, TOT = .ok s1 ∧ Rt C w' s1 ∧ Rf w1 w' ∧ r = .tuple #[]) (iCount_end hC h2) (hT2.trans (bnd_id _)) hR2 (fun s1 r w' hX ⟨hr, _, h⟩ _ hR => ⟨s1, hX, h, hR, hr⟩)) ?_ ?_))
  rotate_left
  · rintro v w4 ⟨e, hX, rfl, h4, hR4⟩
    intro ac ha
    have hc4 := hR4.blk hc1 neIRu neILg
    refine ⟨fun h => (by cases h), .func 74, _, 74, [Value.pointer (some ⟨x2, 0, none⟩)].toArray, rfl, rfl, ?_⟩
    refine CallsD.mono' (iCaught hc4 e.1) ?_
    rintro en u' w5 ⟨rfl, rfl, hc5, hk5⟩
    refine ⟨.int .i64 (e.1 : Nat), ?_, .inl ⟨_, rfl, e.1, e.2, rfl, by rw [hX]; rfl, h4.other hxw hc4 neIRu neILg hk5, ((Rf.of0 hk1).tr hR4).trB hk5 (by omega)⟩⟩
    have i2 := ha.has 2 _ rfl
    have l2 : (loadVar 3 ⟨x2, 0, none⟩).run Try.prog w5 = .ok (.int .i64 (e.1 : Nat)) w5 := loadVar_one hT rfl (hc5.cell rfl)
    show (results Try.f45 ac.tmps).run _ _ = _
    simp only [results, show Try.f45.results = #[.cell 2 3] from rfl]
    simp [i2, asAddr, l2]
  rintro r w3 ⟨s3, hT3, h3, hR3, rfl⟩
  have hc3 := hR3.blk hc1 neIRu neILg
  refine au ?_
  refine pl_op rfl rfl (opTo_storeN [.int .i64 0] rfl rfl rfl rfl size_rn hc3 (by simp) (one_in _) ?_)
  intro w4 hs4 hk4 hc4
  rw [splice_whole (by rfl)] at hc4
  refine au ?_
  refine rn_retD Try.func45 rfl (fun ac ha => ⟨fun h => (by cases h), .func 74, _, 74, [Value.pointer (some ⟨x2, 0, none⟩)].toArray, rfl, rfl, ?_⟩)
  refine CallsD.mono' (iUncaught w4 x2) ?_
  rintro e u' w5 ⟨rfl, rfl, rfl⟩
  refine ⟨.int .i64 0, ?_, .inl ⟨_, rfl, 0, s3, rfl, by rw [hT3]; rfl, h3.other hxw hc3 neIRu neILg hk4, ((Rf.of0 hk1).tr hR3).trB hk4 (by omega)⟩⟩
  have i2 := ha.has 2 _ rfl
  have l2 : (loadVar 3 ⟨x2, 0, none⟩).run Try.prog w5 = .ok (.int .i64 0) w5 := loadVar_one hT rfl (hc4.cell rfl)
  show (results Try.f45 ac.tmps).run _ _ = _
  simp only [results, show Try.f45.results = #[.cell 2 3] from rfl]
  simp [i2, asAddr, l2]
end

/-! ### Run -/
section
variable {P : Program} {f n : Nat} {k : List Item} {K Kp : Value → World → Prop} {σ : Env} {w : World}
theorem rn_retCTT {fn : Func} {t0 ty t1 t2 : Nat} {ad : Addr} {v0 v1 v2 : Value} (hf : P.funcs[f]? = some fn) (hr : fn.results = #[.cell t0 ty, .tmp t1, .tmp t2]) (h0 : look σ t0 = some (.pointer (some ad))) (hl : (loadVar ty ad).run P w = .ok v0 w) (h1 : look σ t1 = some v1) (h2 : look σ t2 = some v2)
    (hR : K (.tuple #[v0, v1, v2]) w) : Rn P f n (.code .ret :: k) (endR K Kp) σ w := fun a ha hd =>
  runs_ret hf hd (by simp only [results, hr]; simp [ha.has t0 _ h0, asAddr, hl, ha.has t1 _ h1, ha.has t2 _ h2]) hR
end
theorem built_rm (a : Int) : Try.prog.built 103 [(1, .int .i64 a)] = some [Value.int .i64 0, .int .i64 a].toArray := by kernel_rfl
theorem built_ru (a : Int) (a1 a2 a3 a4 : Option Addr) (n1 c1 n2 c2 n3 c3 n4 c4 : Nat) : Try.prog.built tRu [(0, .agg #[.int .i64 0, .int .i64 a]), (1, .agg #[.slice a1 n1 c1, .slice a2 n2 c2]), (2, .slice a3 n3 c3), (3, .slice a4 n4 c4)] = some [Value.int .i64 0, .int .i64 a, .slice a1 n1 c1, .slice a2 n2 c2, .slice a3 n3 c3, .slice a4 n4 c4, .slice none 0 0].toArray := by kernel_rfl
theorem built_ir0 : Try.prog.built 46 [] = some (resC 0 (.slice none 0 0) (.slice none 0 0)).toArray := by kernel_rfl
theorem built_ir3 (c : Int) (a b : Option Addr) (n k m d : Nat) : Try.prog.built 46 [(0, .int .i64 c), (1, .slice a n k), (2, .slice b m d)] = some (resC c (.slice a n k) (.slice b m d)).toArray := by kernel_rfl
theorem sl_rl : intSl Try.prog 26 2 = true := by decide +kernel
theorem nePRu' : 25 ≠ tRu := by decide
theorem nePLg' : 25 ≠ tLg := by decide
theorem neReRu : 46 ≠ tRu := by decide
theorem neReLg : 46 ≠ tLg := by decide
theorem nw_nil (w : World) : Nw w (.slice none 0 0) := fun b q n c h => by cases h
theorem ls0 (w : World) : LsV w (.slice none 0 0) [] := ⟨none, 0, rfl, fun h => absurd h (by simp)⟩

theorem ideal_run {F : Nat → Prop} {w : World} {x iv : Value} {vs : List VarT} {body : List ST} {inp : List Int} (fuel : Int) (hp : ProgV F w x vs body) (hF : In F w) (hi : LsC w iv inp) (hvl : vs.length ≤ 100000) (hsz : szSs body ≤ 1000) (hil : inp.length ≤ 100000) :
    Ret Try.prog 28 [x, iv, .int .i64 fuel] w fun r w' => (∃ ov cv, r = .tuple #[.agg (resC (runI vs body inp fuel).code ov cv).toArray, .int .i64 (runI vs body inp fuel).used, .int .i64 (runI vs body inp fuel).fault] ∧ LsC w' ov (runI vs body inp fuel).out ∧ LsV w' cv (runI vs body inp fuel).cells ∧ Nw w ov ∧ Nw w cv) ∧ Keep [] w w' := by
  have hp0 := hp
  obtain ⟨vv, bv, rfl, hv, hb⟩ := hp
  obtain ⟨av, capv, rfl⟩ := hv.form
  obtain ⟨ab, capb, rfl⟩ := hb.form
  obtain ⟨⟨ia, icap, rfl, hir⟩, hic⟩ := hi
  have hic := hic _ _ _ rfl
  refine ret_of 56 Try.func28 rfl rfl (by simp) ?_
  refine au ?_
  refine pl_op rfl rfl (opTo_boxN [.slice av vs.length capv, .slice ab body.length capb] rfl rfl rfl ?_)
  intro w1 x3 hx3 hs1 hk1 hX1
  refine au ?_
  refine pl_op rfl rfl (opTo_allocN _ rfl zero_re ?_)
  intro w2 x6 hx6 hs2 hk2 hZ2
  have hk02 := hk1.tr hk2
  have hX2 := hk2.blk hX1 (by simp)
  refine au ?_
  refine pl_val (.agg #[.slice av vs.length capv, .slice ab body.length capb]) rfl rfl (val_load [.slice av vs.length capv, .slice ab body.length capb] hT rfl rfl rfl (hX2.range (by rfl))) ?_
  refine pl_op rfl rfl (opTo_call (fst := []) (cap := []) rfl rfl rfl rfl (by decide +kernel) ((check_ret (hp0.keep hk02 hF.stays) (hF.keep hk02) (by omega)).mono ?_))
  rintro r w3 ⟨rfl, hk3⟩
  have hk03 := hk02.tr hk3
  have hX3 := hk3.blk hX2 (by simp)
  have hZ3 := hk3.blk hZ2 (by simp)
  have hx6w : w.heap.size ≤ x6 := by have := hk1.size; omega
  refine au ?_
  by_cases hpf : ¬ progFault vs body = 0
  · refine ye ?_
    refine au ?_
    refine pl_val _ rfl rfl (val_build _ rfl rfl built_ir0 w3) ?_
    refine au ?_
    refine pl_op rfl rfl (opTo_storeN (resC 0 (.slice none 0 0) (.slice none 0 0)) rfl rfl rfl rfl size_re hZ3 (by simp [resC]) (resC_one _ _ _ _ _ _ _) ?_)
    intro w4 hs4 hk4 hZ4
    rw [splice_whole (by rfl)] at hZ4
    refine au ?_
    rw [runI_not hpf]
    exact rn_retCTT Try.func28 rfl rfl (blk_loadVar hT hZ4 rfl) rfl rfl ⟨⟨.slice none 0 0, .slice none 0 0, rfl, ls_nil _, ls0 _, nw_nil _, nw_nil _⟩, hk03.trB hk4 hx6w⟩
  replace hpf : progFault vs body = 0 := by omega
  rw [hpf]
  refine nay ?_
  refine au ?_
  by_cases hoff : ¬ (inp.length ≤ 40 ∧ 0 ≤ fuel ∧ fuel ≤ 3000)
  · rw [runI_off hpf hoff]
    by_cases hl1 : ¬ inp.length ≤ 40
    · refine ye ?_
      refine au ?_
      refine pl_val _ rfl rfl (val_build _ rfl rfl built_ir0 w3) ?_
      refine pl_op rfl rfl (opTo_storeN (resC 0 (.slice none 0 0) (.slice none 0 0)) rfl rfl rfl rfl size_re hZ3 (by simp [resC]) (resC_one _ _ _ _ _ _ _) ?_)
      intro w4 hs4 hk4 hZ4
      rw [splice_whole (by rfl)] at hZ4
      refine au ?_
      exact rn_retCTT Try.func28 rfl rfl (blk_loadVar hT hZ4 rfl) rfl rfl ⟨⟨.slice none 0 0, .slice none 0 0, rfl, ls_nil _, ls0 _, nw_nil _, nw_nil _⟩, hk03.trB hk4 hx6w⟩
    refine nay ?_
    refine au ?_
    by_cases hl2 : fuel < 0
    · refine ye ?_
      refine au ?_
      refine pl_val _ rfl rfl (val_build _ rfl rfl built_ir0 w3) ?_
      refine pl_op rfl rfl (opTo_storeN (resC 0 (.slice none 0 0) (.slice none 0 0)) rfl rfl rfl rfl size_re hZ3 (by simp [resC]) (resC_one _ _ _ _ _ _ _) ?_)
      intro w4 hs4 hk4 hZ4
      rw [splice_whole (by rfl)] at hZ4
      refine au ?_
      exact rn_retCTT Try.func28 rfl rfl (blk_loadVar hT hZ4 rfl) rfl rfl ⟨⟨.slice none 0 0, .slice none 0 0, rfl, ls_nil _, ls0 _, nw_nil _, nw_nil _⟩, hk03.trB hk4 hx6w⟩
    refine nay ?_
    refine au ?_
    refine ye ?_
    refine au ?_
    refine pl_val _ rfl rfl (val_build _ rfl rfl built_ir0 w3) ?_
    refine pl_op rfl rfl (opTo_storeN (resC 0 (.slice none 0 0) (.slice none 0 0)) rfl rfl rfl rfl size_re hZ3 (by simp [resC]) (resC_one _ _ _ _ _ _ _) ?_)
    intro w4 hs4 hk4 hZ4
    rw [splice_whole (by rfl)] at hZ4
    refine au ?_
    exact rn_retCTT Try.func28 rfl rfl (blk_loadVar hT hZ4 rfl) rfl rfl ⟨⟨.slice none 0 0, .slice none 0 0, rfl, ls_nil _, ls0 _, nw_nil _, nw_nil _⟩, hk03.trB hk4 hx6w⟩
  have hon : inp.length ≤ 40 ∧ 0 ≤ fuel ∧ fuel ≤ 3000 := by omega
  obtain ⟨hl1, hl2, hl3⟩ := hon
  rw [runI_in hpf hl1 hl2 hl3]
  obtain ⟨fu, rfl⟩ : ∃ fu : Nat, fuel = (fu : Nat) := ⟨fuel.toNat, by omega⟩
  rw [Int.toNat_natCast]
  obtain ⟨hv8, hcv, kk, hkk⟩ := progFault_ok hpf
  obtain ⟨hszs, hsum⟩ := chkV_sizes hcv
  have hsum := hsum (by omega)
  have hsum0 := sumV_nonneg hszs
  have hrn := chkSs_rn body hkk
  have hsized : Sized vs := ⟨by omega, fun x hx => by have := hszs x hx; omega⟩
  have hcellN : cellOf vs (vs.length : Nat) = (((sumV vs).toNat : Nat) : Int) := by
    unfold cellOf
    rw [Int.toNat_natCast, List.take_length]
    omega
  refine nay ?_
  refine au ?_
  refine nay ?_
  refine au ?_
  refine nay ?_
  refine au ?_
  refine rn_draw (fun w' => Keep [] w3 w') [] hMix ?_
  have hS : Keep [] w3 w3.drew := (Keep.refl _ _).drew
  generalize w3.drew = w4 at *
  refine tk 0 ?_
  refine dr_any 1 _ rfl (by decide +kernel) rfl rfl (fun w => val_build _ rfl rfl (built_rm (fu : Nat)) w) ?_
  refine dr_val 2 (.agg #[.slice av vs.length capv, .slice ab body.length capb]) rfl (by decide +kernel) rfl rfl (fun w9 hS9 => val_load [.slice av vs.length capv, .slice ab body.length capb] hT rfl rfl rfl ((hS9.blk hX3 (by simp)).range (by rfl))) hS ?_
  refine tk 3 ?_
  refine dr_val 4 (.agg #[.slice av vs.length capv, .slice ab body.length capb]) rfl (by decide +kernel) rfl rfl (fun w9 hS9 => val_load [.slice av vs.length capv, .slice ab body.length capb] hT rfl rfl rfl ((hS9.blk hX3 (by simp)).range (by rfl))) hS ?_
  refine dr_op 5 rfl (by decide +kernel) rfl rfl (opTo_call (fst := []) (cap := []) rfl rfl rfl rfl (by decide +kernel) ((cells_ret (hp0.keep (hk03.tr hS) hF.stays) (hF.keep (hk03.tr hS)) hsized).mono ?_))
  rintro r w5 ⟨rfl, hk5⟩
  rw [hcellN]
  refine ⟨fun _ => hS.tr hk5, ?_⟩
  refine dr_op 6 rfl (by decide +kernel) rfl rfl (opTo_makeI 2 (sumV vs).toNat rfl rfl rfl sl_rl (by omega) ?_)
  intro w6 g hg hs6 hk6 hG6
  refine ⟨fun _ => (hS.tr hk5).tr hk6, ?_⟩
  refine dr_any 7 _ rfl (by decide +kernel) rfl rfl (fun w => val_build _ rfl rfl (built_ru (fu : Nat) av ab ia (some ⟨g, 0, none⟩) vs.length capv body.length capb inp.length icap (sumV vs).toNat (sumV vs).toNat) w) ?_
  refine dr_op 8 rfl (by decide +kernel) rfl rfl (opTo_boxN [.int .i64 0, .int .i64 (fu : Nat), .slice av vs.length capv, .slice ab body.length capb, .slice ia inp.length icap, .slice (some ⟨g, 0, none⟩) (sumV vs).toNat (sumV vs).toNat, .slice none 0 0] rfl rfl rfl ?_)
  intro w7 b hb0 hs7 hk7 hB7
  have hk37 := ((hS.tr hk5).tr hk6).tr hk7
  refine ⟨fun _ => hk37, ?_⟩
  refine tk 9 ?_
  refine dr_done (by decide +kernel) ?_
  have hk07 := hk03.tr hk37
  have hgw : w.heap.size ≤ g := by have := (hk03.tr (hS.tr hk5)).size; omega
  have hbw : w.heap.size ≤ b := by have := (hk03.tr ((hS.tr hk5).tr hk6)).size; omega
  have hG7 := hk7.blk hG6 (by simp)
  have hZ7 := hk37.blk hZ3 (by simp)
  obtain ⟨C, hCe⟩ : ∃ C : Kx, C = ⟨vs, body, F, inp, fu, w, b, .slice av vs.length capv, .slice ab body.length capb, .slice (some ⟨g, 0, none⟩) (sumV vs).toNat (sumV vs).toNat⟩ := ⟨_, rfl⟩
  have hC : C.Ok := by
    rw [hCe]
    exact ⟨hp0, hF, hszs, hv8, by show sumV vs ≤ 48; omega, by show fu ≤ 3000; omega, hl1, hbw⟩
  have h7 : Rt C w7 (es0 (sumV vs).toNat) := by
    rw [hCe]
    refine ⟨.slice ia inp.length icap, .slice none 0 0, hk07, hB7, ⟨ia, icap, rfl, hic, Nat.zero_le _, fun h0 => ?_⟩, ⟨by rw [lgs_length]; simp [es0], .inr ⟨g, (sumV vs).toNat, List.replicate (sumV vs).toNat (.int .i64 0), by simp [es0], hgw, hG7, by simp [es0], by simp, ?_⟩⟩, RowL.nil _ _, fun k _ hm => by simp [obs, Value.ownBlock] at hm, by simp [es0]; omega, Nat.zero_le _, Nat.le_refl _⟩
    · exact hir h0
    · simp [es0, lgs]
  have hRun := iRun_ret hC (by rw [hCe]; exact hsz) (by rw [hCe]; exact hrn) h7
  have hCb : C.b = b := by rw [hCe]
  have hCX : evP C.vs C.inp C.fuel C.bd (es0 (sumV vs).toNat) = saysX vs body inp fu := by rw [hCe]; rfl
  rw [hCb, hCX] at hRun
  refine au ?_
  refine pl_op rfl rfl (opTo_call (fst := []) (cap := []) rfl rfl rfl rfl (by decide +kernel) (hRun.mono ?_))
  rintro r w8 ⟨c, s8, rfl, hres, ⟨u8, o8, h8⟩, hR8⟩
  have hZ8 := hR8.blk hZ7 neReRu neReLg
  rw [← hres]
  have h8c := h8.rc
  have h8o := h8.ro
  have h8b := h8.bk
  have h8k := h8.kp
  have h8l := h8.cl
  rw [hCe] at h8c h8o h8b h8k h8l
  dsimp only at h8c h8o h8b h8k h8l
  obtain ⟨oa, oc, rfl⟩ := h8o.form
  have hxb : x6 ≠ b := Blk.ne hZ8 h8b neReRu
  refine au ?_
  refine rn_draw (fun w' => Keep [x6] w8 w') [] hMix ?_
  have hS8 : Keep [x6] w8 w8.drew := (Keep.refl _ _).drew
  have hS0 : Keep [] w8 w8.drew := (Keep.refl _ _).drew
  generalize w8.drew = w9 at *
  refine tk 0 ?_
  refine tk 1 ?_
  refine tk 2 ?_
  refine tk 3 ?_
  refine dr_val 4 (.slice oa s8.out.length oc) rfl (by decide +kernel) rfl rfl (fun w9 hS9 => val_load1 hT rfl rfl rfl ((hS9.blk h8b (by simp; exact hxb.symm)).cell rfl)) hS8 ?_
  refine tk 5 ?_
  refine tk 6 ?_
  refine tk 7 ?_
  refine dr_val 8 (.slice (some ⟨g, 0, none⟩) (sumV vs).toNat (sumV vs).toNat) rfl (by decide +kernel) rfl rfl (fun w9 hS9 => val_load1 hT rfl rfl rfl ((hS9.blk h8b (by simp; exact hxb.symm)).cell rfl)) hS8 ?_
  refine dr_any 9 _ rfl (by decide +kernel) rfl rfl (fun w => val_build _ rfl rfl (built_ir3 (c : Nat) oa (some ⟨g, 0, none⟩) s8.out.length oc (sumV vs).toNat (sumV vs).toNat) w) ?_
  refine tk 10 ?_
  refine tk 11 ?_
  refine tk 12 ?_
  refine tk 13 ?_
  refine dr_val 14 (.int .i64 (s8.n : Nat)) rfl (by decide +kernel) rfl rfl (fun w9 hS9 => val_load1 hT rfl rfl rfl ((hS9.blk h8b (by simp; exact hxb.symm)).cell rfl)) hS8 ?_
  have hZ9 := hS0.blk hZ8 (by simp)
  refine dr_op 15 rfl (by decide +kernel) rfl rfl (opTo_storeN (resC (c : Nat) (.slice oa s8.out.length oc) (.slice (some ⟨g, 0, none⟩) (sumV vs).toNat (sumV vs).toNat)) rfl rfl rfl rfl size_re hZ9 (by simp [resC]) (resC_one _ _ _ _ _ _ _) ?_)
  intro w10 hs10 hk10 hZ10
  rw [splice_whole (by rfl)] at hZ10
  refine ⟨fun _ => hS8.tr hk10, ?_⟩
  refine tk 16 ?_
  refine tk 17 ?_
  refine dr_done (by decide +kernel) ?_
  have hk8 : Keep [x6] w8 w10 := hS8.tr hk10
  have ho10 := h8o.keep hk8 (h8o.ne hZ8 neReLg)
  have hc10 := h8c.keep hk8 (h8c.ne hZ8 neReLg)
  have hcap := ho10.cap
  refine au ?_
  refine rn_retCTT Try.func28 rfl rfl (blk_loadVar hT hZ10 rfl) rfl rfl ⟨⟨.slice oa s8.out.length oc, .slice (some ⟨g, 0, none⟩) (sumV vs).toNat (sumV vs).toNat, rfl, ⟨ho10.lies, fun a n cap he => ?_⟩, hc10.lies, fun k q n c he _ => ?_, fun k q n c he _ => ?_⟩, h8k.trB hk8 hx6w⟩
  · injection he with e1 e2 e3
    rw [← e2, ← e3]
    exact hcap
  · exact (h8o.lt k (by rw [he]; simp [obs, Value.ownBlock])).1
  · exact (h8c.lt k (by rw [he]; simp [obs, Value.ownBlock])).1
theorem idC : IdC := ⟨fun fuel hp hF hi hv hs hl => ideal_run fuel hp hF hi hv hs hl⟩
end E
end Go.Proofs.Ytmdjgejahnmfmae

/- Programs, as an argument of a law is read, are such as the walks know. -/
namespace Go.Proofs.Ytmdjgejahnmfmae
set_option maxRecDepth 20000
set_option maxHeartbeats 4000000
namespace E
open Go.Proofs

/-- A program whose slice of statements is no longer than its capacity. -/
def CapB (x : Value) : Prop := ∃ vv a n c, x = .agg #[vv, .slice a n c] ∧ n ≤ c
section
variable {H : Type} {enc : TypeId × Value → H} {w : World} {base : Nat} {spare : Nat → Bool} {held : Bool}

theorem cInt : Try.prog.cellsOf 3 = 1 := by decide +kernel
theorem cLong : Try.prog.cellsOf 2 = 1 := by decide +kernel
theorem cStr : Try.prog.cellsOf 9 = 1 := by decide +kernel
theorem cLE : Try.prog.cellsOf 68 = 1 := by decide +kernel
theorem cLS : Try.prog.cellsOf 23 = 1 := by decide +kernel
theorem cLV : Try.prog.cellsOf 22 = 1 := by decide +kernel
theorem cE4 : Try.prog.cellsOf 70 = 4 := by decide +kernel
theorem cS12 : Try.prog.cellsOf 72 = 12 := by decide +kernel
theorem cV2 : Try.prog.cellsOf 67 = 2 := by decide +kernel
theorem cP2 : Try.prog.cellsOf 25 = 2 := by decide +kernel

theorem exprSplit : ExprSplit enc Try.prog w base spare held 3 2 68 70 := by
  intro fuel cs x h
  obtain ⟨xs, n, hn, _, hl, hlen, hf⟩ := DataW.trod_struct Try.underlying70 h
  rw [cE4] at hl
  obtain ⟨c0, c1, c2, c3, rfl⟩ := list4 hl
  have f0 : DataW.trod enc Try.prog w base spare held n 3 (([c0, c1, c2, c3].drop 0).take (Try.prog.cellsOf 3)) = xs[0]? := hf 0 _ rfl
  have f1 : DataW.trod enc Try.prog w base spare held n 3 (([c0, c1, c2, c3].drop 1).take (Try.prog.cellsOf 3)) = xs[1]? := hf 1 _ rfl
  have f2 : DataW.trod enc Try.prog w base spare held n 2 (([c0, c1, c2, c3].drop 2).take (Try.prog.cellsOf 2)) = xs[2]? := hf 2 _ rfl
  have f3 : DataW.trod enc Try.prog w base spare held n 68 (([c0, c1, c2, c3].drop 3).take (Try.prog.cellsOf 68)) = xs[3]? := hf 3 _ rfl
  have hx : ∀ i, i < 4 → ∃ y, xs[i]? = some y := fun i hi => ⟨xs[i]'(by rw [hlen]; exact hi), List.getElem?_eq_getElem _⟩
  obtain ⟨y0, e0⟩ := hx 0 (by decide)
  obtain ⟨y1, e1⟩ := hx 1 (by decide)
  obtain ⟨y2, e2⟩ := hx 2 (by decide)
  obtain ⟨y3, e3⟩ := hx 3 (by decide)
  rw [e0, cInt] at f0
  rw [e1, cInt] at f1
  rw [e2, cLong] at f2
  rw [e3, cLE] at f3
  exact ⟨n, c0, c1, c2, c3, hn, rfl, ⟨y0, f0⟩, ⟨y1, f1⟩, ⟨y2, f2⟩, ⟨y3, f3⟩⟩

theorem list12P {cs : List Value} (h : cs.length = 12) : ∃ a b c d e f g i j k l m, cs = [a, b, c, d, e, f, g, i, j, k, l, m] := by
  match cs, h with
  | [a, b, c, d, e, f, g, i, j, k, l, m], _ => exact ⟨a, b, c, d, e, f, g, i, j, k, l, m, rfl⟩

theorem stmtSplit : StmtSplit enc Try.prog w base spare held 3 70 23 72 := by
  intro fuel cs x h
  obtain ⟨xs, n, hn, _, hl, hlen, hf⟩ := DataW.trod_struct Try.underlying72 h
  rw [cS12] at hl
  obtain ⟨c0, c1, d0, d1, d2, d3, g0, g1, g2, g3, cb, co, rfl⟩ := list12P hl
  have f0 : DataW.trod enc Try.prog w base spare held n 3 (([c0, c1, d0, d1, d2, d3, g0, g1, g2, g3, cb, co].drop 0).take (Try.prog.cellsOf 3)) = xs[0]? := hf 0 _ rfl
  have f1 : DataW.trod enc Try.prog w base spare held n 3 (([c0, c1, d0, d1, d2, d3, g0, g1, g2, g3, cb, co].drop 1).take (Try.prog.cellsOf 3)) = xs[1]? := hf 1 _ rfl
  have f2 : DataW.trod enc Try.prog w base spare held n 70 (([c0, c1, d0, d1, d2, d3, g0, g1, g2, g3, cb, co].drop 2).take (Try.prog.cellsOf 70)) = xs[2]? := hf 2 _ rfl
  have f3 : DataW.trod enc Try.prog w base spare held n 70 (([c0, c1, d0, d1, d2, d3, g0, g1, g2, g3, cb, co].drop 6).take (Try.prog.cellsOf 70)) = xs[3]? := hf 3 _ rfl
  have f4 : DataW.trod enc Try.prog w base spare held n 23 (([c0, c1, d0, d1, d2, d3, g0, g1, g2, g3, cb, co].drop 10).take (Try.prog.cellsOf 23)) = xs[4]? := hf 4 _ rfl
  have f5 : DataW.trod enc Try.prog w base spare held n 23 (([c0, c1, d0, d1, d2, d3, g0, g1, g2, g3, cb, co].drop 11).take (Try.prog.cellsOf 23)) = xs[5]? := hf 5 _ rfl
  have hx : ∀ i, i < 6 → ∃ y, xs[i]? = some y := fun i hi => ⟨xs[i]'(by rw [hlen]; exact hi), List.getElem?_eq_getElem _⟩
  obtain ⟨y0, e0⟩ := hx 0 (by decide)
  obtain ⟨y1, e1⟩ := hx 1 (by decide)
  obtain ⟨y2, e2⟩ := hx 2 (by decide)
  obtain ⟨y3, e3⟩ := hx 3 (by decide)
  obtain ⟨y4, e4⟩ := hx 4 (by decide)
  obtain ⟨y5, e5⟩ := hx 5 (by decide)
  rw [e0, cInt] at f0
  rw [e1, cInt] at f1
  rw [e2, cE4] at f2
  rw [e3, cE4] at f3
  rw [e4, cLS] at f4
  rw [e5, cLS] at f5
  exact ⟨n, c0, c1, [d0, d1, d2, d3], [g0, g1, g2, g3], cb, co, hn, rfl, ⟨y0, f0⟩, ⟨y1, f1⟩, ⟨y2, f2⟩, ⟨y3, f3⟩, ⟨y4, f4⟩, ⟨y5, f5⟩⟩

theorem varSplit : VarSplit enc Try.prog w base spare held 9 3 67 := by
  intro fuel cs x h
  obtain ⟨xs, n, hn, _, hl, hlen, hf⟩ := DataW.trod_struct Try.underlying67 h
  rw [cV2] at hl
  match cs, hl with
  | [c0, c1], _ =>
    have f0 : DataW.trod enc Try.prog w base spare held n 9 (([c0, c1].drop 0).take (Try.prog.cellsOf 9)) = xs[0]? := hf 0 _ rfl
    have f1 : DataW.trod enc Try.prog w base spare held n 3 (([c0, c1].drop 1).take (Try.prog.cellsOf 3)) = xs[1]? := hf 1 _ rfl
    have hx : ∀ i, i < 2 → ∃ y, xs[i]? = some y := fun i hi => ⟨xs[i]'(by rw [hlen]; exact hi), List.getElem?_eq_getElem _⟩
    obtain ⟨y0, e0⟩ := hx 0 (by decide)
    obtain ⟨y1, e1⟩ := hx 1 (by decide)
    rw [e0, cStr] at f0
    rw [e1, cInt] at f1
    exact ⟨n, c0, c1, hn, rfl, ⟨y0, f0⟩, ⟨y1, f1⟩⟩

theorem prog_ofC {cs : Array Value} {d : DataW H} {ps : List MemPlace} (h : DataW.Trod enc Try.prog w base spare held 25 (.agg cs) d ps) : ∃ vs body, ProgV (fun b => b < w.heap.size) w (.agg cs) vs body ∧ CapB (.agg cs) := by
  obtain ⟨fuel, hf0⟩ := h
  obtain ⟨xs, n, _, _, hl, hlen, hf⟩ := DataW.trod_struct Try.underlying25 hf0
  rw [cP2] at hl
  have hl' : cs.toList.length = 2 := hl
  obtain ⟨c0, c1, hcs⟩ : ∃ c0 c1, cs.toList = [c0, c1] := by
    match cs.toList, hl' with
    | [c0, c1], _ => exact ⟨c0, c1, rfl⟩
  have f0 : DataW.trod enc Try.prog w base spare held n 22 ((cs.toList.drop 0).take (Try.prog.cellsOf 22)) = xs[0]? := hf 0 _ rfl
  have f1 : DataW.trod enc Try.prog w base spare held n 23 ((cs.toList.drop 1).take (Try.prog.cellsOf 23)) = xs[1]? := hf 1 _ rfl
  have hx : ∀ i, i < 2 → ∃ y, xs[i]? = some y := fun i hi => ⟨xs[i]'(by rw [hlen]; exact hi), List.getElem?_eq_getElem _⟩
  obtain ⟨y0, e0⟩ := hx 0 (by decide)
  obtain ⟨y1, e1⟩ := hx 1 (by decide)
  rw [e0, cLV, hcs] at f0
  rw [e1, cLS, hcs] at f1
  obtain ⟨vv, vs, hvv, hV⟩ := trod_vars Try.underlying9 Try.underlying3 Try.underlying22 cV2 varSplit f0
  obtain ⟨a, cap, L, cc, hc, hr, hq, hcap⟩ := open_rows (Q := StmtV (fun b => b < w.heap.size) w) 12 (by decide) Try.underlying23 cS12 (fun m _ cs x h => trod_stmt Try.underlying3 Try.underlying2 Try.underlying68 cE4 exprSplit Try.underlying23 cS12 stmtSplit m cs x h) f1
  simp at hvv hc
  subst hvv
  subst hc
  have hagg : Value.agg cs = .agg #[c0, .slice a L.length cap] := by
    congr 1
    apply Array.ext'
    rw [hcs]
  exact ⟨vs, L, ⟨c0, .slice a L.length cap, hagg, hV, a, cap, cc, rfl, hr, hq⟩, c0, a, L.length, cap, hagg, hcap⟩
theorem prog_of {cs : Array Value} {d : DataW H} {ps : List MemPlace} (h : DataW.Trod enc Try.prog w base spare held 25 (.agg cs) d ps) : ∃ vs body, ProgV (fun b => b < w.heap.size) w (.agg cs) vs body :=
  let ⟨vs, body, h, _⟩ := prog_ofC h
  ⟨vs, body, h⟩
end
end E
end Go.Proofs.Ytmdjgejahnmfmae
