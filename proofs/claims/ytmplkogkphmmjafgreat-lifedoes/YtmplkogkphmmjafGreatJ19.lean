/- Several texts in one: LkB, LkC, CkA, CkB, CkC. -/
import Derived.Test.YtmplkogkphmmjafGreatJ18
import Derived.Test.YtmplkogkphmmjafGreatJ09
import Derived.Test.YtmplkogkphmmjafGreatJ08
/- The landed life: check, crash, run. -/
namespace Go.Proofs.YtmplkogkphmmjafGreat
set_option maxRecDepth 20000
set_option maxHeartbeats 4000000
namespace E
open Go.Proofs

theorem lcheck_ret (s : Sp) (w : World) : Ret Tryz.prog 34 [.agg (spC s).toArray] w fun r w' => r = .int .i64 (spFault s) ∧ Keep [] w w' := by
  obtain ⟨kd, N, K, mk⟩ := s
  refine ret_of 40 Tryz.func34 rfl rfl (by simp) ?_
  refine au ?_
  refine pl_op rfl rfl (opTo_boxN (spC (kd, N, K, mk)) rfl rfl rfl ?_)
  intro w1 x1 hx1 hs1 hk1 hb1
  have e2 : ¬ (kd = 1 ∨ kd = 2 ∨ kd = 3) → spFault (kd, N, K, mk) = 2 := fun h => by
    unfold spFault
    simp only
    rw [if_pos (by omega)]
  have e1 : (kd = 1 ∨ kd = 2 ∨ kd = 3) → (kd ≠ 2 ∧ (N < 0 ∨ 3000 < N) ∨ kd = 3 ∧ K < 0) → spFault (kd, N, K, mk) = 1 := fun h h' => by
    unfold spFault
    simp only
    rw [if_neg (by omega), if_pos h']
  have e0 : (kd = 1 ∨ kd = 2 ∨ kd = 3) → ¬ (kd ≠ 2 ∧ (N < 0 ∨ 3000 < N) ∨ kd = 3 ∧ K < 0) → spFault (kd, N, K, mk) = 0 := fun h h' => by
    unfold spFault
    simp only
    rw [if_neg (by omega), if_neg h']
  by_cases h0 : kd = 1 ∨ kd = 2 ∨ kd = 3
  rotate_left
  · refine aub ?_
    exact rn_ret Tryz.func34 (.inl ⟨_, rfl, rfl⟩) ⟨by rw [e2 h0], hk1⟩
  by_cases h2 : kd = 2
  · have hr := e0 h0 (by omega)
    refine aub ?_
    exact rn_ret Tryz.func34 (.inl ⟨_, rfl, rfl⟩) ⟨by rw [hr], hk1⟩
  by_cases hN : N < 0
  · have hr := e1 h0 (by omega)
    by_cases h1 : kd = 1
    · refine aub ?_
      exact rn_ret Tryz.func34 (.inl ⟨_, rfl, rfl⟩) ⟨by rw [hr], hk1⟩
    · have h3 : kd = 3 := by omega
      refine aub ?_
      exact rn_ret Tryz.func34 (.inl ⟨_, rfl, rfl⟩) ⟨by rw [hr], hk1⟩
  by_cases hN2 : 3000 < N
  · have hr := e1 h0 (by omega)
    by_cases h1 : kd = 1
    · refine aub ?_
      exact rn_ret Tryz.func34 (.inl ⟨_, rfl, rfl⟩) ⟨by rw [hr], hk1⟩
    · have h3 : kd = 3 := by omega
      refine aub ?_
      exact rn_ret Tryz.func34 (.inl ⟨_, rfl, rfl⟩) ⟨by rw [hr], hk1⟩
  by_cases h1 : kd = 1
  · have hr := e0 h0 (by omega)
    refine aub ?_
    exact rn_ret Tryz.func34 (.inl ⟨_, rfl, rfl⟩) ⟨by rw [hr], hk1⟩
  have h3 : kd = 3 := by omega
  by_cases hK : K < 0
  · have hr := e1 h0 (by omega)
    refine aub ?_
    exact rn_ret Tryz.func34 (.inl ⟨_, rfl, rfl⟩) ⟨by rw [hr], hk1⟩
  · have hr := e0 h0 (by omega)
    refine aub ?_
    exact rn_ret Tryz.func34 (.inl ⟨_, rfl, rfl⟩) ⟨by rw [hr], hk1⟩

section
variable {vs : List VarT} {body : List ST} {inp : List Int} {B : Nat} {w w' : World} {x y d q i : Nat} {fp fm fm' rd : List Nat} {cv iv : Value} {z z' : Lz}
theorem LV.put (h1 : Lfk rd B w y (.pointer (some ⟨x, 0, none⟩)) d q cv iv (insP vs body) inp (sumV vs).toNat) (hyf : y ∉ fm) (hm : Lm (· ∈ rd) B w d q (insP vs body) inp x fm z) (hm' : Lm (· ∈ rd) B w' d q (insP vs body) inp x fm' z') (hk : Keep fm w w') (hf : ∀ k ∈ fm', k ∈ fm ∨ w.heap.size ≤ k) : LV vs body inp B w' y (y :: (fm' ++ rd)) z' := by
  refine ⟨x, d, q, cv, iv, rd, fm', rfl, h1.keep hk fun k hk => ⟨fun e => hyf (e ▸ hk), (hm.lt k hk).2.2⟩, hm', fun h => ?_⟩
  rcases hf y h with h2 | h2
  · exact hyf h2
  · have := h1.blk.lt
    omega
/-- The disk crashes, and another machine is made; A: what is known of its blocks. -/
theorem lifeCrash_ret {A : Nat → Prop} {mv : Value} {n mk : Nat} {p : Pr} {KW W : List Int} {g : Int} {k mm : Md} (h : Lfk rd B w y mv d q cv iv (insP vs body) inp n) (hn : n = (sumV vs).toNat)
    (hcr : Ret Tryz.prog 63 [.pointer (some ⟨d, 0, none⟩), .int .u64 (mk : Nat)] w fun r w' => r = .tuple #[] ∧ ∃ pv, Dk (· ∈ rd) B w' d q pv p KW g ∧ Enc KW k ∧ KW.length = 112 ∧ Keep [d] w w' ∧ ∀ b ∈ d :: q :: obs pv, b ≠ y ∧ b ∉ rd ∧ A b)
    (hc : k.cells.length ≤ 48) (hil : inp.length ≤ 1000000) :
    Ret Tryz.prog 37 [.pointer (some ⟨y, 0, none⟩), .int .u64 (mk : Nat)] w fun r w' => r = .tuple #[] ∧ ∃ fp', LV vs body inp B w' y fp' (wakeZ ⟨⟨mm, k, p⟩, W, KW, g⟩) ∧ Keep [d, y] w w' ∧ A d ∧ ∀ b ∈ fp', b = y ∨ A b ∨ b ∈ rd ∨ w.heap.size ≤ b := by
  refine ret_of 12 Tryz.func37 rfl rfl (by simp) ?_
  refine au ?_
  refine pl_val _ rfl rfl (val_load1 hT rfl rfl rfl (h.blk.cell rfl)) ?_
  refine au ?_
  refine pl_op rfl rfl (opTo_call (fst := []) (cap := []) rfl rfl rfl rfl (by decide +kernel) (hcr.mono ?_))
  rintro r w1 ⟨rfl, pv, hd1, he, hl, hk1, hf1⟩
  have hdd := hf1 d (by simp)
  refine au ?_
  refine pl_op rfl rfl (opTo_call (fst := []) (cap := []) rfl rfl rfl rfl (by decide +kernel) ((wake_ret (mm := mm) (W := W) (h.keep hk1 fun b hb => by rw [List.mem_singleton.1 hb]; exact ⟨hdd.1, hdd.2.1⟩) hn hd1 (fun hm => (hf1 y hm).1 rfl) he hc hl hil).mono ?_))
  rintro r w2 ⟨rfl, fp', h2, hk2, hf2⟩
  have hs1 := hk1.size
  refine au ?_
  refine rn_end Tryz.func37 (.inr (.inl ⟨rfl, rfl⟩)) ⟨rfl, fp', h2, ?_, hdd.2.2, fun b hb => ?_⟩
  · exact (hk1.mono fun b hb => .inl (by rw [List.mem_singleton.1 hb]; simp)).tr (hk2.mono fun b hb => .inl (by rw [List.mem_singleton.1 hb]; simp))
  · rcases hf2 b hb with h6 | h6 | h6 | h6
    · exact .inl h6
    · exact .inr (.inl (hf1 b h6).2.2)
    · exact .inr (.inr (.inl h6))
    · exact .inr (.inr (.inr (by omega)))
theorem lifeRun_ret (n : Nat) (h : LV vs body inp B w y fp z) (hz : InvZ vs body inp z i) (hi : i ≤ 300000) (hpf : progFault vs body = 0) (hsz : szSs body ≤ 1000) (hil : inp.length ≤ 40) (hn : n ≤ 3000) :
    Ret Tryz.prog 35 [.pointer (some ⟨y, 0, none⟩), .int .i64 (n : Nat)] w fun r w' => r = .int .i64 ((runZ nwL (insP vs body) inp n z).2 : Nat) ∧ ∃ fp', LV vs body inp B w' y fp' (runZ nwL (insP vs body) inp n z).1 ∧ Keep fp w w' ∧ ∀ k ∈ fp', k ∈ fp ∨ w.heap.size ≤ k := by
  refine ret_of 19 Tryz.func35 rfl rfl (by simp) ?_
  refine au ?_
  refine rn_ind (fun t σ w' => ∃ (j : Nat) (fp' : List Nat) (z' : Lz), j ≤ n ∧ t = n - j ∧ σ = [(0, .pointer (some ⟨y, 0, none⟩)), (1, .int .i64 (n : Nat)), (6, .int .i64 (n : Nat)), (7, .int .i64 (j : Nat))] ∧ LV vs body inp B w' y fp' z' ∧ InvZ vs body inp z' (i + j) ∧
      runZ nwL (insP vs body) inp n z = ((runZ nwL (insP vs body) inp (n - j) z').1, (runZ nwL (insP vs body) inp (n - j) z').2 + j) ∧ Keep fp w w' ∧ ∀ k ∈ fp', k ∈ fp ∨ w.heap.size ≤ k)
    n _ ?_ ⟨0, fp, z, Nat.zero_le _, rfl, rfl, h, hz, rfl, Keep.refl _ _, fun k hk => .inl hk⟩ ?_
  · exact ⟨rfl, rfl, rfl, rfl, trivial⟩
  rintro t σ w3 ih ⟨j, fp', z', hj, rfl, rfl, h3, hz3, htot, hk3, hf3⟩
  have hsz3 := hk3.size
  refine au ?_
  by_cases hlt : j < n
  rotate_left
  · have hjn : j = n := by omega
    subst hjn
    refine nay ?_
    refine au ?_
    rw [Nat.sub_self] at htot
    rw [htot]
    refine rn_ret Tryz.func35 (.inl ⟨_, rfl, rfl⟩) ⟨by simp [runZ], fp', h3, hk3, hf3⟩
  refine ye ?_
  obtain ⟨x, d, q, cv, iv, rd, fm, hfp, l1, l2, l3⟩ := h3
  obtain ⟨hlo3, hkc3, hmc3, _, _⟩ := hz3.lo hpf hsz hil
  obtain ⟨r, hr⟩ : ∃ r, n - j = r + 1 := ⟨n - j - 1, by omega⟩
  rw [hr] at htot
  simp only [runZ] at htot
  refine au ?_
  refine pl_val _ rfl rfl (val_load1 hT rfl rfl rfl (l1.blk.cell rfl)) ?_
  by_cases hs0 : z'.lf.m.state = 0
  rotate_left
  · rw [if_neg hs0] at htot
    refine pl_op rfl rfl (opTo_call (fst := []) (cap := []) rfl rfl rfl rfl (by decide +kernel) ((l2.off hs0).mono ?_))
    rintro r w5 ⟨rfl, hk5⟩
    refine au ?_
    rw [htot]
    refine rn_ret Tryz.func35 (.inl ⟨_, rfl, rfl⟩) ⟨by simp, _, LV.put l1 l3 l2 (l2.keep0 hk5) hk5.of0 (fun k hk => .inl hk), hk3.tr0 hk5, fun k hk => hf3 k (by rw [hfp]; exact hk)⟩
  rw [if_pos hs0] at htot
  refine pl_op rfl rfl (opTo_call (fst := []) (cap := []) rfl rfl rfl rfl (by decide +kernel) ((l2.step hlo3 (by omega) hs0).mono ?_))
  rintro r w5 ⟨rfl, fm', hm5, hk5, hf5⟩
  have hv5 := LV.put l1 l3 l2 hm5 hk5 hf5
  have hz5 := hz3.one (nw := nwL) true
  have hk35 : Keep fp' w3 w5 := hk5.mono fun k hk => .inl (by rw [hfp]; simp [hk])
  refine au ?_
  refine pl_num (((j + 1 : Nat) : Int)) rfl rfl rfl rfl rfl (by simp only [ariP]; omega) ?_
  refine au ?_
  refine rn_sub ?_ (ih (n - (j + 1)) [(0, .pointer (some ⟨y, 0, none⟩)), (1, .int .i64 (n : Nat)), (6, .int .i64 (n : Nat)), (7, .int .i64 ((j + 1 : Nat) : Int))] w5 (by omega) ⟨j + 1, _, _, by omega, rfl, rfl, hv5, hz5, ?_, hk3.trans hk35 (fun k hm => hf3 k hm), ?_⟩)
  · exact ⟨rfl, rfl, rfl, rfl, trivial⟩
  · rw [htot, show n - (j + 1) = r by omega]
    simp only [Nat.add_assoc, Nat.add_comm 1 j]
    rfl
  · intro k hk
    simp only [List.mem_cons, List.mem_append] at hk
    have old : k ∈ fp' → k ∈ fp ∨ w.heap.size ≤ k := hf3 k
    rcases hk with hk | hk | hk
    · exact old (by rw [hfp, hk]; simp)
    · rcases hf5 k hk with h6 | h6
      · exact old (by rw [hfp]; simp [h6])
      · exact .inr (by omega)
    · exact old (by rw [hfp]; simp [hk])
end
end E
end Go.Proofs.YtmplkogkphmmjafGreat

/- The landed life: tear, Do. -/
namespace Go.Proofs.YtmplkogkphmmjafGreat
set_option maxRecDepth 20000
set_option maxHeartbeats 4000000
namespace E
open Go.Proofs

section
variable {vs : List VarT} {body : List ST} {inp : List Int} {B : Nat} {w w' : World} {x y d q i : Nat} {fp fm fm' rd : List Nat} {cv iv : Value} {z z' : Lz}
theorem lifeTear_ret {kd K : Int} {n mk : Nat} {kp : Bool} (h : LV vs body inp B w y fp z) (hz : InvZ vs body inp z i) (hi : i ≤ 300000) (hpf : progFault vs body = 0) (hsz : szSs body ≤ 1000) (hil : inp.length ≤ 40) (hn : n ≤ 3000) (hK0 : 0 ≤ K) (hK : K < 9223372036854775808) (hkp : kp = spKeep (kd, (n : Int), K, mk)) :
    Ret Tryz.prog 36 [.pointer (some ⟨y, 0, none⟩), .agg (spC (kd, (n : Int), K, mk)).toArray] w fun r w' => r = .int .i64 ((tearZ nwL (insP vs body) inp kp n z).2 : Nat) ∧ ∃ fp', LV vs body inp B w' y fp' (tearZ nwL (insP vs body) inp kp n z).1 ∧ Keep fp w w' ∧ ∀ k ∈ fp', k ∈ fp ∨ w.heap.size ≤ k := by
  refine ret_of 44 Tryz.func36 rfl rfl (by simp) ?_
  refine au ?_
  refine pl_op rfl rfl (opTo_boxN (spC (kd, (n : Int), K, mk)) rfl rfl rfl ?_)
  intro w2 x1 hx1 hs2 hk02 hb2
  have h2 := h.keep hk02 (fun k hk => by cases hk)
  have hx1f : x1 ∉ fp := fun hm => by
    have := (h.lt x1 hm).2
    omega
  have hsz02 := hk02.size
  have hx2 := hb2.lt
  refine au ?_
  refine pl_val _ rfl rfl (val_load1 hT rfl rfl rfl (hb2.cell rfl)) ?_
  refine au ?_
  refine rn_ind (fun t σ w' => ∃ (j : Nat) (fp' : List Nat) (z' : Lz), j ≤ n ∧ t = n - j ∧ σ = [(0, .pointer (some ⟨y, 0, none⟩)), (3, .pointer (some ⟨x1, 0, none⟩)), (7, .int .i64 (n : Nat)), (8, .int .i64 (j : Nat))] ∧ LV vs body inp B w' y fp' z' ∧ InvZ vs body inp z' (i + j) ∧
      tearZ nwL (insP vs body) inp kp n z = ((tearZ nwL (insP vs body) inp kp (n - j) z').1, (tearZ nwL (insP vs body) inp kp (n - j) z').2 + j) ∧ Keep fp w2 w' ∧ ∀ k ∈ fp', k ∈ fp ∨ w2.heap.size ≤ k)
    n _ ?_ ⟨0, fp, z, Nat.zero_le _, rfl, rfl, h2, hz, rfl, Keep.refl _ _, fun k hk => .inl hk⟩ ?_
  · exact ⟨rfl, rfl, rfl, rfl, trivial⟩
  rintro t σ w3 ih ⟨j, fp', z', hj, rfl, rfl, h3, hz3, htot, hk3, hf3⟩
  have hb3 := hk3.blk hb2 hx1f
  have hsz3 := hk3.size
  have done : ∀ {w' : World} {fp2 : List Nat} {z2 : Lz}, LV vs body inp B w' y fp2 z2 → Keep fp' w3 w' → (∀ k ∈ fp2, k ∈ fp' ∨ w3.heap.size ≤ k) → ∃ fp', LV vs body inp B w' y fp' z2 ∧ Keep fp w w' ∧ ∀ k ∈ fp', k ∈ fp ∨ w.heap.size ≤ k := fun {w' fp2 z2} hl hk hf => by
    refine ⟨fp2, hl, hk02.of0.tr (hk3.trans hk fun k hm => hf3 k hm), fun k hk => ?_⟩
    rcases hf k hk with h5 | h5
    · rcases hf3 k h5 with h6 | h6
      · exact .inl h6
      · exact .inr (by omega)
    · exact .inr (by omega)
  refine au ?_
  by_cases hlt : j < n
  rotate_left
  · have hjn : j = n := by omega
    subst hjn
    refine nay ?_
    refine au ?_
    refine pl_val _ rfl rfl (val_load1 hT rfl rfl rfl (hb3.cell rfl)) ?_
    refine au ?_
    rw [Nat.sub_self] at htot
    rw [htot]
    refine rn_ret Tryz.func36 (.inl ⟨_, rfl, rfl⟩) ⟨by simp [tearZ], done h3 (Keep.refl _ _) fun k hk => .inl hk⟩
  refine ye ?_
  obtain ⟨x, d, q, cv, iv, rd, fm, hfp, l1, l2, l3⟩ := h3
  obtain ⟨hlo3, hkc3, hmc3, _, _⟩ := hz3.lo hpf hsz hil
  obtain ⟨r, hr⟩ : ∃ r, n - j = r + 1 := ⟨n - j - 1, by omega⟩
  rw [hr] at htot
  simp only [tearZ] at htot
  have inf : ∀ k ∈ fm, k ∈ fp' := fun k hk => by rw [hfp]; simp [hk]
  refine au ?_
  refine pl_val _ rfl rfl (val_load1 hT rfl rfl rfl (l1.blk.cell rfl)) ?_
  refine pl_op rfl rfl (opTo_call (fst := []) (cap := []) rfl rfl rfl rfl (by decide +kernel) ((l2.commits hlo3).mono ?_))
  rintro r' w4 ⟨rfl, hk4⟩
  have s4 := hk4.size
  by_cases hcm : comB (insP vs body) z'.lf.m = true
  · rw [show comB (insSs vs body 0 ++ [haltI]) z'.lf.m = true from hcm]
    rw [if_pos hcm] at htot
    refine au ?_
    have l1' := l1.keep0 hk4
    have l2' := l2.keep0 hk4
    have hb4 := hk4.blk hb3 (by simp)
    refine rn_draw (fun w' => Keep [] w4 w') [6] hMix ?_
    have hS : Keep [] w4 w4.drew := (Keep.refl _ _).drew
    generalize w4.drew = w5 at *
    refine tk 0 ?_
    refine tk 1 ?_
    refine tk 2 ?_
    refine dr_val 3 (.pointer (some ⟨x, 0, none⟩)) rfl (by decide +kernel) rfl rfl (fun w9 hS9 => val_load1 hT rfl rfl rfl ((l1'.keep0 hS9).blk.cell rfl)) hS ?_
    refine tk 4 ?_
    refine dr_val 5 (.int .i64 K) rfl (by decide +kernel) rfl rfl (fun w9 hS9 => val_load1 hT rfl rfl rfl ((hS9.blk hb4 (by simp)).cell rfl)) hS ?_
    have l1 := l1'.keep0 hS
    have l2 := l2'.keep0 hS
    have hb5 := hS.blk hb4 (by simp)
    refine dr_op 6 rfl (by decide +kernel) rfl rfl (opTo_call (fst := []) (cap := []) rfl rfl rfl rfl (by decide +kernel) ((l2.tear hlo3.cells K).mono ?_))
    rintro r' w6 ⟨rfl, lt6, hk6⟩
    refine ⟨fun h => absurd (by simp) h, ?_⟩
    refine dr_done (by decide +kernel) ?_
    have fmn : ∀ k ∈ fm, k ≠ y ∧ k ∉ rd := fun k hk => ⟨fun e => l3 (e ▸ hk), (l2.lt k hk).2.2⟩
    have fmx : x1 ∉ fm := fun hm => by
      rcases hf3 x1 (inf x1 hm) with h6 | h6
      · exact hx1f h6
      · omega
    have l6 := l1.keep hk6 fmn
    have hb6 := hk6.blk hb5 fmx
    refine au ?_
    refine pl_val _ rfl rfl (val_load1 hT rfl rfl rfl (l6.blk.cell rfl)) ?_
    refine pl_op rfl rfl (opTo_call (fst := []) (cap := []) rfl rfl rfl rfl (by decide +kernel) ((lt6.tears hlo3 (by omega) hcm hK0 hK mk (keep := kp) (by rw [hkp]; rfl)).mono ?_))
    rintro r' w7 ⟨rfl, hk7, hcr⟩
    have l7 := l6.keep hk7 fmn
    have hb7 := hk7.blk hb6 fmx
    have s5 := hS.size
    have s6 := hk6.size
    have s7 := hk7.size
    have hyl := l6.blk.lt
    refine au ?_
    refine pl_val _ rfl rfl (val_load1 hT rfl rfl rfl (hb7.cell rfl)) ?_
    have hz9 := hz3.one (nw := nwL) kp
    obtain ⟨_, hkc9, _, h48', _⟩ := hz9.lo hpf hsz hil
    obtain ⟨zz, hzz⟩ : ∃ zz, zz = stepZ nwL (insP vs body) inp kp z' := ⟨_, rfl⟩
    have hcr' := hcr w7 (Keep.refl _ _)
    rw [show stepZ nwL (insSs vs body 0 ++ [haltI]) inp kp z' = zz from hzz.symm] at hcr'
    rw [← hzz] at hkc9 htot
    refine pl_op rfl rfl (opTo_call (fst := []) (cap := []) rfl rfl rfl rfl (by decide +kernel) ((lifeCrash_ret (A := fun b => b ∈ fm ∨ w6.heap.size ≤ b) (mm := zz.lf.m) (W := zz.W) (k := zz.lf.k) (p := zz.lf.p) (KW := zz.KW) (g := zz.gen) l7 rfl (hcr'.mono ?_) (by
      have : (zz.lf.k.cells.length : Int) ≤ 48 := by omega
      exact Int.ofNat_le.1 this) (by omega)).mono ?_))
    · rintro r' w9 ⟨rfl, pv, hd9, he9, hl9, hk9, hf9⟩
      refine ⟨rfl, pv, hd9, he9, hl9, hk9, fun b hb => ?_⟩
      rcases hf9 b hb with h6 | h6
      · exact ⟨(fmn b h6).1, (fmn b h6).2, .inl h6⟩
      · exact ⟨by omega, fun hm => by have := (l6.low b hm).2; omega, .inr h6⟩
    rintro r' w10 ⟨rfl, fp10, h10, hk10, hAd, hf10⟩
    refine au ?_
    refine pl_num (((j + 1 : Nat) : Int)) rfl rfl rfl rfl rfl (by simp only [ariP]; omega) ?_
    refine au ?_
    rw [htot]
    refine rn_ret Tryz.func36 (.inl ⟨_, rfl, rfl⟩) ⟨by simp [Nat.add_comm], done h10 ?_ ?_⟩
    · refine (((hk4.tr hS).of0.tr (hk6.mono fun k hk => .inl (inf k hk))).tr (hk7.mono fun k hk => .inl (inf k hk))).trans hk10 fun k hk => ?_
      simp only [List.mem_cons, List.not_mem_nil, or_false] at hk
      rcases hk with hk | hk
      · rw [hk]
        rcases hAd with h7 | h7
        · exact .inl (inf _ h7)
        · exact .inr (by omega)
      · exact .inl (by rw [hfp, hk]; simp)
    · intro k hk
      rcases hf10 k hk with h6 | h6 | h6 | h6
      · exact .inl (by rw [hfp, h6]; simp)
      · rcases h6 with h7 | h7
        · exact .inl (inf k h7)
        · exact .inr (by omega)
      · exact .inl (by rw [hfp]; simp [h6])
      · exact .inr (by omega)
  have hcm' : comB (insP vs body) z'.lf.m = false := by simpa using hcm
  rw [show comB (insSs vs body 0 ++ [haltI]) z'.lf.m = false from hcm']
  rw [if_neg hcm] at htot
  have l1' := l1.keep0 hk4
  have l2' := l2.keep0 hk4
  refine au ?_
  refine pl_val _ rfl rfl (val_load1 hT rfl rfl rfl (l1'.blk.cell rfl)) ?_
  by_cases hs0 : z'.lf.m.state = 0
  rotate_left
  · rw [if_neg hs0] at htot
    refine pl_op rfl rfl (opTo_call (fst := []) (cap := []) rfl rfl rfl rfl (by decide +kernel) ((l2'.off hs0).mono ?_))
    rintro r' w5 ⟨rfl, hk5⟩
    refine au ?_
    rw [htot]
    refine rn_ret Tryz.func36 (.inl ⟨_, rfl, rfl⟩) ⟨by simp, done (LV.put l1' l3 l2' (l2'.keep0 hk5) hk5.of0 fun k hk => .inl hk) (hk4.tr hk5).of0 fun k hk => .inl (by rw [hfp]; exact hk)⟩
  rw [if_pos hs0] at htot
  refine pl_op rfl rfl (opTo_call (fst := []) (cap := []) rfl rfl rfl rfl (by decide +kernel) ((l2'.step hlo3 (by omega) hs0).mono ?_))
  rintro r' w5 ⟨rfl, fm', hm5, hk5, hf5⟩
  have hv5 := LV.put l1' l3 l2' hm5 hk5 hf5
  have hz5 := hz3.one (nw := nwL) true
  have hk35 : Keep fp' w3 w5 := hk4.of0.tr (hk5.mono fun k hk => .inl (inf k hk))
  refine au ?_
  refine pl_num (((j + 1 : Nat) : Int)) rfl rfl rfl rfl rfl (by simp only [ariP]; omega) ?_
  refine au ?_
  refine rn_sub ?_ (ih (n - (j + 1)) [(0, .pointer (some ⟨y, 0, none⟩)), (3, .pointer (some ⟨x1, 0, none⟩)), (7, .int .i64 (n : Nat)), (8, .int .i64 ((j + 1 : Nat) : Int))] w5 (by omega) ⟨j + 1, _, _, by omega, rfl, rfl, hv5, hz5, ?_, hk3.trans hk35 (fun k hm => hf3 k hm), ?_⟩)
  · exact ⟨rfl, rfl, rfl, rfl, trivial⟩
  · rw [htot, show n - (j + 1) = r by omega]
    simp only [Nat.add_assoc, Nat.add_comm 1 j]
    rfl
  · intro k hk
    simp only [List.mem_cons, List.mem_append] at hk
    have old : k ∈ fp' → k ∈ fp ∨ w2.heap.size ≤ k := hf3 k
    rcases hk with hk | hk | hk
    · exact old (by rw [hfp, hk]; simp)
    · rcases hf5 k hk with h6 | h6
      · exact old (inf k h6)
      · exact .inr (by omega)
    · exact old (by rw [hfp]; simp [hk])
theorem does_ret (s : Sp) (h : LV vs body inp B w y fp z) (hz : InvZ vs body inp z i) (hi : i ≤ 300000) (hpf : progFault vs body = 0) (hsz : szSs body ≤ 1000) (hil : inp.length ≤ 40) (hK : s.2.2.1 < 9223372036854775808) :
    Ret Tryz.prog 13 [.pointer (some ⟨y, 0, none⟩), .agg (spC s).toArray] w fun r w' => r = .tuple #[.int .i64 ((doZS nwL (insP vs body) inp s z).2 : Nat), .int .i64 (spFault s)] ∧ ∃ fp', LV vs body inp B w' y fp' (doZS nwL (insP vs body) inp s z).1 ∧ Keep fp w w' ∧ ∀ k ∈ fp', k ∈ fp ∨ w.heap.size ≤ k := by
  obtain ⟨kd, N, K, mk⟩ := s
  simp only at hK
  refine ret_of 29 Tryz.func13 rfl rfl (by simp) ?_
  refine au ?_
  refine pl_op rfl rfl (opTo_boxN (spC (kd, N, K, mk)) rfl rfl rfl ?_)
  intro w1 x1 hx1 hs1 hk1 hb1
  refine au ?_
  refine pl_val (.agg (spC (kd, N, K, mk)).toArray) rfl rfl (val_load (spC (kd, N, K, mk)) hT rfl rfl rfl (hb1.range (by rfl))) ?_
  refine pl_op rfl rfl (opTo_call (fst := []) (cap := []) rfl rfl rfl rfl (by decide +kernel) ((lcheck_ret (kd, N, K, mk) w1).mono ?_))
  rintro r w2 ⟨rfl, hk2⟩
  have hk02 := hk1.tr hk2
  have hb2 := hk2.blk hb1 (by simp)
  have h2 := h.keep hk02 (fun k hk => by cases hk)
  have hsz02 := hk02.size
  refine au ?_
  by_cases hf : spFault (kd, N, K, mk) = 0
  rotate_left
  · refine ye ?_
    refine au ?_
    unfold doZS
    rw [if_neg hf]
    exact rn_ret Tryz.func13 (.inr (.inr (.inr (.inr ⟨_, _, _, _, rfl, rfl, rfl, rfl⟩)))) ⟨rfl, fp, h2, hk02.of0, fun k hk => .inl hk⟩
  refine nay ?_
  refine au ?_
  refine pl_val _ rfl rfl (val_load1 hT rfl rfl rfl (hb2.cell rfl)) ?_
  have hdo : doZS nwL (insP vs body) inp (kd, N, K, mk) z = doZ nwL (insP vs body) inp kd N.toNat (spKeep (kd, N, K, mk)) z := by
    unfold doZS
    rw [if_pos hf]
  rw [hdo, hf]
  have hrange : (kd = 1 ∨ kd = 2 ∨ kd = 3) ∧ (kd ≠ 2 → 0 ≤ N ∧ N ≤ 3000) ∧ (kd = 3 → 0 ≤ K) := by
    unfold spFault at hf
    simp only at hf
    split at hf
    · omega
    · split at hf
      · omega
      · refine ⟨by omega, fun _ => by omega, fun _ => by omega⟩
  obtain ⟨hlo, hkc, hmc, h48, hp0⟩ := hz.lo hpf hsz hil
  have late : ∀ {fp' : List Nat}, (∀ k ∈ fp', k ∈ fp ∨ w2.heap.size ≤ k) → ∀ k ∈ fp', k ∈ fp ∨ w.heap.size ≤ k := fun {fp'} h k hk => by
    rcases h k hk with h6 | h6
    · exact .inl h6
    · exact .inr (by omega)
  refine au ?_
  by_cases h1 : kd = 1
  · obtain ⟨n, rfl⟩ : ∃ n : Nat, N = (n : Int) := ⟨N.toNat, by have := (hrange.2.1 (by omega)).1; omega⟩
    have hn3 := (hrange.2.1 (by omega)).2
    refine ye ?_
    refine au ?_
    refine pl_val _ rfl rfl (val_load1 hT rfl rfl rfl (hb2.cell rfl)) ?_
    refine pl_op rfl rfl (opTo_call (fst := []) (cap := []) rfl rfl rfl rfl (by decide +kernel) ((lifeRun_ret n h2 hz hi hpf hsz hil (by omega)).mono ?_))
    rintro r w3 ⟨rfl, fp', h3, hk3, hf3⟩
    refine au ?_
    have e : doZ nwL (insP vs body) inp kd ((n : Int)).toNat (spKeep (kd, (n : Int), K, mk)) z = runZ nwL (insP vs body) inp n z := by
      unfold doZ
      rw [if_neg (by omega), if_neg (by omega), Int.toNat_natCast]
    rw [e]
    exact rn_ret Tryz.func13 (.inr (.inr (.inr (.inr ⟨_, _, _, _, rfl, rfl, rfl, rfl⟩)))) ⟨rfl, fp', h3, hk02.of0.tr hk3, late hf3⟩
  refine nay ?_
  refine au ?_
  by_cases h3 : kd = 3
  · obtain ⟨n, rfl⟩ : ∃ n : Nat, N = (n : Int) := ⟨N.toNat, by have := (hrange.2.1 (by omega)).1; omega⟩
    have hn3 := (hrange.2.1 (by omega)).2
    refine ye ?_
    refine au ?_
    refine pl_val (.agg (spC (kd, (n : Int), K, mk)).toArray) rfl rfl (val_load (spC (kd, (n : Int), K, mk)) hT rfl rfl rfl (hb2.range (by rfl))) ?_
    refine pl_op rfl rfl (opTo_call (fst := []) (cap := []) rfl rfl rfl rfl (by decide +kernel) ((lifeTear_ret (kp := spKeep (kd, (n : Int), K, mk)) h2 hz hi hpf hsz hil (by omega) (hrange.2.2 h3) hK rfl).mono ?_))
    rintro r w3 ⟨rfl, fp', h3', hk3, hf3⟩
    refine au ?_
    have e : doZ nwL (insP vs body) inp kd ((n : Int)).toNat (spKeep (kd, (n : Int), K, mk)) z = tearZ nwL (insP vs body) inp (spKeep (kd, (n : Int), K, mk)) n z := by
      unfold doZ
      rw [if_neg (by omega), if_pos h3, Int.toNat_natCast]
    rw [e]
    exact rn_ret Tryz.func13 (.inr (.inr (.inr (.inr ⟨_, _, _, _, rfl, rfl, rfl, rfl⟩)))) ⟨rfl, fp', h3', hk02.of0.tr hk3, late hf3⟩
  refine nay ?_
  refine au ?_
  refine pl_val _ rfl rfl (val_load1 hT rfl rfl rfl (hb2.cell rfl)) ?_
  obtain ⟨x, d, q, cv, iv, rd, fm, rfl, l1, l2, l3⟩ := h2
  refine pl_op rfl rfl (opTo_call (fst := []) (cap := []) rfl rfl rfl rfl (by decide +kernel) ((lifeCrash_ret (A := fun b => b ∈ fm) (mm := z.lf.m) (W := z.W) (k := z.lf.k) (p := z.lf.p) (KW := z.KW) (g := z.gen) l1 rfl ((l2.crash mk).mono ?_) (by omega) (by omega)).mono ?_))
  · rintro r w4 ⟨rfl, pv, hd4, hk4, hf4⟩
    exact ⟨rfl, pv, hd4, l2.2.1, l2.2.2, hk4, fun b hb => ⟨fun e => l3 (e ▸ hf4 b hb), (l2.lt b (hf4 b hb)).2.2, hf4 b hb⟩⟩
  rintro r w5 ⟨rfl, fp', h5, hk5, hAd, hf5⟩
  refine au ?_
  have e : doZ nwL (insP vs body) inp kd N.toNat (spKeep (kd, N, K, mk)) z = (wakeZ z, 0) := by
    unfold doZ
    rw [if_pos (by omega)]
  rw [e]
  refine rn_ret Tryz.func13 (.inr (.inr (.inr (.inr ⟨_, _, _, _, rfl, rfl, rfl, rfl⟩)))) ⟨rfl, fp', h5, ?_, ?_⟩
  · refine hk02.of0.tr (hk5.mono fun k hk => .inl ?_)
    simp only [List.mem_cons, List.not_mem_nil, or_false] at hk
    rcases hk with hk | hk
    · rw [hk]; simp [hAd]
    · rw [hk]; simp
  · intro b hb
    rcases hf5 b hb with h6 | h6 | h6 | h6
    · exact .inl (by simp [h6])
    · exact .inl (by simp [h6])
    · exact .inl (by simp [h6])
    · exact .inr (by omega)
end
end E
end Go.Proofs.YtmplkogkphmmjafGreat

/- The landed maker: how it lies in memory; contracts of next, add, lead, cell, size. -/
namespace Go.Proofs.YtmplkogkphmmjafGreat
set_option maxRecDepth 20000
set_option maxHeartbeats 4000000
namespace E
open Go.Proofs

abbrev tMk : Nat := 103
abbrev tIn : Nat := 107
theorem neMI : tMk ≠ tIn := by decide

/-- What making leaves alone: all blocks but those of instructions and of makers. -/
structure Mf (w w' : World) : Prop where
  size : w.heap.size ≤ w'.heap.size
  blk : ∀ {c : Nat} {L : List Value} {e : TypeId}, Blk w c L e → e ≠ tMk → e ≠ tIn → Blk w' c L e
theorem Mf.refl (w : World) : Mf w w := ⟨Nat.le_refl _, fun h _ _ => h⟩
theorem Mf.tr {w w' w'' : World} (h : Mf w w') (h' : Mf w' w'') : Mf w w'' := ⟨Nat.le_trans h.size h'.size, fun hb h1 h2 => h'.blk (h.blk hb h1 h2) h1 h2⟩
theorem Mf.of0 {w w' : World} (h : Keep [] w w') : Mf w w' := ⟨h.size, fun hb _ _ => h.blk hb (by simp)⟩
theorem Mf.of {w w' : World} {fp : List Nat} (h : Keep fp w w') (hf : ∀ k ∈ fp, ∃ L e, Blk w k L e ∧ (e = tMk ∨ e = tIn)) : Mf w w' :=
  ⟨h.size, fun hb h1 h2 => h.blk hb fun hm => by
    obtain ⟨L, e, hb', he⟩ := hf _ hm
    rcases he with he | he
    · exact Blk.ne hb hb' (fun h => h1 (h.trans he)) rfl
    · exact Blk.ne hb hb' (fun h => h2 (h.trans he)) rfl⟩

/-- The maker at b, over a world w0 in which it was not yet: the instructions l so far; its program. -/
structure Mk (w0 w : World) (b : Nat) (v : Value) (l : List Is) (vv bv : Value) : Prop where
  kp : Keep [] w0 w
  ge : w0.heap.size ≤ b
  bk : Blk w b [v, vv, bv] tMk
  row : RowI tIn w w0.heap.size v l
def Mt (w0 w : World) (b : Nat) (l : List Is) (vv bv : Value) : Prop := ∃ v, Mk w0 w b v l vv bv

section
variable {w0 w w1 w2 : World} {b B : Nat} {v v' vv bv : Value} {l l' : List Is}
theorem mrow_blk (h : RowI tIn w B v l) : ∀ k ∈ v.ownBlock.toList, ∃ X, Blk w k X tIn := by
  intro k hk
  rcases h.2 with ⟨rfl, _⟩ | ⟨g, cap, cur, rfl, _, hg, _⟩
  · simp [Value.ownBlock] at hk
  · have : k = g := by simpa [Value.ownBlock] using hk
    subst this
    exact ⟨cur, hg⟩
theorem mrow_ne (h : RowI tIn w B v l) {X : List Value} (hb : Blk w b X tMk) : ∀ k ∈ v.ownBlock.toList, k ≠ b := by
  intro k hk
  obtain ⟨Y, hY⟩ := mrow_blk h k hk
  exact (Blk.ne hb hY neMI).symm
theorem Mk.keep0 (h : Mk w0 w b v l vv bv) (hk : Keep [] w w1) : Mk w0 w1 b v l vv bv := ⟨h.kp.tr hk, h.ge, hk.blk h.bk (by simp), h.row.keep0 hk⟩
theorem Mt.keep0 (h : Mt w0 w b l vv bv) (hk : Keep [] w w1) : Mt w0 w1 b l vv bv := let ⟨v, h⟩ := h; ⟨v, h.keep0 hk⟩
theorem Mt.kp (h : Mt w0 w b l vv bv) : Keep [] w0 w := let ⟨_, h⟩ := h; h.kp
theorem Mk.bkA (h : Mk w0 w b v l vv bv) (hk : Keep v.ownBlock.toList w w1) : Blk w1 b [v, vv, bv] tMk := hk.blk h.bk fun hm => mrow_ne h.row h.bk b hm rfl
theorem Mk.app (h : Mk w0 w b v l vv bv) (hk : Keep v.ownBlock.toList w w1) (hrow : RowI tIn w1 w0.heap.size v' l') (hk2 : Keep [b] w1 w2) (hb : Blk w2 b [v', vv, bv] tMk) : Mk w0 w2 b v' l' vv bv ∧ Mf w w2 := by
  have hb1 := h.bkA hk
  refine ⟨⟨(h.kp.trans hk fun k hm => .inr (h.row.own k hm).1).trB hk2 h.ge, h.ge, hb, ?_⟩, ?_⟩
  · exact Own.keep hrow hk2 fun k hv hm => mrow_ne hrow hb1 k (by simpa using hv) (List.mem_singleton.1 hm)
  · refine Mf.tr (Mf.of hk fun k hm => ?_) (Mf.of hk2 fun k hm => ⟨[v, vv, bv], tMk, by rw [List.mem_singleton.1 hm]; exact hb1, .inl rfl⟩)
    obtain ⟨X, hX⟩ := mrow_blk h.row k hm
    exact ⟨X, tIn, hX, .inr rfl⟩
end

theorem built_mi03 (a n : Int) : Tryz.prog.built tIn [(0, .int .i64 a), (3, .int .i64 n)] = some (iC (a, 0, 0, n)).toArray := by kernel_rfl
theorem built_mi0 (a : Int) : Tryz.prog.built tIn [(0, .int .i64 a)] = some (iC (a, 0, 0, 0)).toArray := by kernel_rfl
theorem built_mi1 (a b : Int) : Tryz.prog.built tIn [(0, .int .i64 a), (1, .int .i64 b)] = some (iC (a, b, 0, 0)).toArray := by kernel_rfl
theorem built_mi2 (a b c : Int) : Tryz.prog.built tIn [(0, .int .i64 a), (1, .int .i64 b), (2, .int .i64 c)] = some (iC (a, b, c, 0)).toArray := by kernel_rfl
theorem zero_mi : ((Tryz.prog.info? tIn).bind (·.zero)).map (·.cells) = some (iC (0, 0, 0, 0)).toArray := by kernel_rfl
theorem size_mi : sizeOk Tryz.prog tIn 4 = true := by kernel_rfl
theorem size_mn : sizeOk Tryz.prog 3 1 = true := by kernel_rfl
theorem size_ms : sizeOk Tryz.prog 54 1 = true := by kernel_rfl
theorem slice_mi (x : Is) : sliceCells Tryz.prog 54 1 [(0, .agg (iC x).toArray)] = some (tIn, (iC x).toArray) := by
  obtain ⟨a, b, c, d⟩ := x
  kernel_rfl
theorem app_mi : appOk Tryz.prog 54 tIn 4 32 = true := by decide +kernel
theorem iC_mone (x : Is) : ∀ u ∈ iC x, u.oneCell' = true := by
  intro u hu
  simp only [iC, List.mem_cons, List.not_mem_nil, or_false] at hu
  rcases hu with rfl | rfl | rfl | rfl <;> rfl
theorem mone {v : Value} (h : v.oneCell' = true) : ∀ u ∈ [v], u.oneCell' = true := by
  intro u hu
  simp only [List.mem_cons, List.not_mem_nil, or_false] at hu
  subst hu
  exact h
theorem ins_mi {w : World} {b e : Nat} {x : Is} (hb : Blk w b (iC x) e) : InsV (fun c => c = b) w (.slice (some ⟨b, 0, none⟩) 1 1) [x] :=
  ⟨_, 1, rfl, fun _ => ⟨b, 0, rfl, rfl, hb.range (by simp [isC, iC])⟩⟩

theorem splice_in (A R : List Value) (x y z : Value) : splice (A ++ x :: y :: R) (A.length + 1) [z] = A ++ x :: z :: R := by
  have e1 : (A ++ x :: y :: R).take (A.length + 1) = A ++ [x] := by
    rw [List.take_append, List.take_of_length_le (by omega), Nat.add_sub_cancel_left]
    rfl
  have e2 : (A ++ x :: y :: R).drop (A.length + 1 + 1) = R := by
    rw [List.drop_append, List.drop_of_length_le (by omega), show A.length + 1 + 1 - A.length = 2 by omega]
    rfl
  unfold splice
  rw [e1, show A.length + 1 + [z].length = A.length + 1 + 1 from rfl, e2]
  simp
theorem isC_mid (p r : List Is) (x : Is) : isC (p ++ x :: r) = isC p ++ .int .i64 x.1 :: .int .i64 x.2.1 :: .int .i64 x.2.2.1 :: .int .i64 x.2.2.2 :: isC r := by
  simp [isC, iC]
theorem splice_row {cur : List Value} {p r : List Is} {op a c n : Int} (m : Int) (h : cur.take ((p ++ (op, a, c, n) :: r).length * 4) = isC (p ++ (op, a, c, n) :: r)) :
    (splice cur (0 + p.length * 4 + 1) [.int .i64 m]).take ((p ++ (op, a, c, n) :: r).length * 4) = isC (p ++ (op, m, c, n) :: r) := by
  obtain ⟨T, hT⟩ : ∃ T, T = cur.drop ((p ++ (op, a, c, n) :: r).length * 4) := ⟨_, rfl⟩
  have hc : cur = isC (p ++ (op, a, c, n) :: r) ++ T := by rw [hT, ← h, List.take_append_drop]
  have hp : 0 + p.length * 4 + 1 = (isC p).length + 1 := by rw [isC_length]; omega
  have hl : (p ++ (op, a, c, n) :: r).length * 4 = (isC (p ++ (op, m, c, n) :: r)).length := by rw [isC_length]; simp
  have e : splice cur (0 + p.length * 4 + 1) [.int .i64 m] = isC (p ++ (op, m, c, n) :: r) ++ T := by
    rw [hc, hp, isC_mid, isC_mid]
    simp only [List.append_assoc, List.cons_append]
    exact splice_in (isC p) _ _ _ _
  rw [e, hl, List.take_left']
  rfl

/-- What the maker's program is. -/
structure CxK (vs : List VarT) (bd : List ST) (F : Nat → Prop) (w0 : World) (vv bv : Value) : Prop where
  pr : ProgV F w0 (.agg #[vv, bv]) vs bd
  hF : In F w0
  sz : Sized vs

section
variable {w0 w : World} {b : Nat} {v vv bv : Value} {l : List Is}
theorem mnext_ret (h : Mk w0 w b v l vv bv) : Ret Tryz.prog 78 [.pointer (some ⟨b, 0, none⟩)] w fun r w' => r = .int .i64 (l.length : Nat) ∧ w' = w := by
  obtain ⟨a, cap, rfl⟩ := h.row.form
  refine ret_of 8 Tryz.func78 rfl rfl (by simp) ?_
  refine au ?_
  refine pl_val _ rfl rfl (val_load1 hT rfl rfl rfl (h.bk.cell rfl)) ?_
  refine au ?_
  exact rn_ret Tryz.func78 (.inl ⟨_, rfl, rfl⟩) ⟨rfl, rfl⟩

theorem madd_ret (h : Mt w0 w b l vv bv) (x : Is) (hl : l.length ≤ 900000) : Ret Tryz.prog 47 [.pointer (some ⟨b, 0, none⟩), .agg (iC x).toArray] w fun r w' => r = .int .i64 (l.length : Nat) ∧ Mt w0 w' b (l ++ [x]) vv bv ∧ Mf w w' := by
  obtain ⟨v, h⟩ := h
  obtain ⟨a, cap, rfl⟩ := h.row.form
  refine ret_of 19 Tryz.func47 rfl rfl (by simp) ?_
  refine au ?_
  refine pl_op rfl rfl (opTo_boxN (iC x) rfl rfl rfl ?_)
  intro w1 x1 hx1 hs1 hk1 hX1
  have h1 := h.keep0 hk1
  refine au ?_
  refine pl_op rfl rfl (opTo_call (fst := []) (cap := []) rfl rfl rfl rfl (by decide +kernel) ((mnext_ret h1).mono ?_))
  rintro r w1' ⟨rfl, hww⟩
  rw [hww]
  refine au ?_
  refine rn_draw (fun w' => Keep [] w1 w') [7, 10] hMix ?_
  have hS : Keep [] w1 w1.drew := (Keep.refl _ _).drew
  generalize w1.drew = w2 at *
  refine tk 0 ?_
  refine tk 1 ?_
  refine tk 2 ?_
  refine tk 3 ?_
  refine dr_val 4 (.slice a l.length cap) rfl (by decide +kernel) rfl rfl (fun w9 hS9 => val_load1 hT rfl rfl rfl ((hS9.blk h1.bk (by simp)).cell rfl)) hS ?_
  refine dr_val 5 (.agg (iC x).toArray) rfl (by decide +kernel) rfl rfl (fun w9 hS9 => val_load (iC x) hT rfl rfl rfl ((hS9.blk hX1 (by simp)).range (by rfl))) hS ?_
  refine dr_op 6 rfl (by decide +kernel) rfl rfl (opTo_sliceN tIn (iC x) rfl rfl (slice_mi x) ?_)
  intro w3 g hg hs3 hk3 hb3
  refine ⟨fun _ => hS.tr hk3, ?_⟩
  have h3 := h1.keep0 (hS.tr hk3)
  refine dr_op 7 rfl (by decide +kernel) rfl rfl (opTo_rowApp l [x] rfl rfl rfl app_mi h3.row (ins_mi hb3) (by simp; omega) h3.kp.size ?_)
  intro v4 w4 hrow4 hk4
  refine ⟨fun h => absurd (by simp) h, ?_⟩
  obtain ⟨a4, c4, rfl⟩ := hrow4.form
  refine tk 8 ?_
  refine tk 9 ?_
  refine dr_op 10 rfl (by decide +kernel) rfl rfl (opTo_storeN [.slice a4 (l ++ [x]).length c4] rfl rfl rfl rfl size_ms (h3.bkA hk4) (by simp) (mone rfl) ?_)
  intro w5 hs5 hk5 hb5
  refine ⟨fun h => absurd (by simp) h, ?_⟩
  refine dr_done (by decide +kernel) ?_
  obtain ⟨h5, hm5⟩ := h3.app hk4 hrow4 hk5 hb5
  refine au ?_
  exact rn_ret Tryz.func47 (.inl ⟨_, rfl, rfl⟩) ⟨rfl, ⟨_, h5⟩, (Mf.of0 (hk1.tr (hS.tr hk3))).tr hm5⟩

theorem mlead_ret {p r : List Is} {op a c n : Int} (h : Mt w0 w b (p ++ (op, a, c, n) :: r) vv bv) : Ret Tryz.prog 129 [.pointer (some ⟨b, 0, none⟩), .int .i64 (p.length : Nat)] w fun r' w' => r' = .tuple #[] ∧ Mt w0 w' b (p ++ (op, (((p ++ (op, a, c, n) :: r).length : Nat) : Int), c, n) :: r) vv bv ∧ Mf w w' := by
  obtain ⟨v, h⟩ := h
  obtain ⟨L, hL⟩ : ∃ L, L = p ++ (op, a, c, n) :: r := ⟨_, rfl⟩
  have hlen : L.length = p.length + 1 + r.length := by rw [hL]; simp; omega
  rw [← hL] at h
  rcases h.row.2 with ⟨_, h0⟩ | ⟨g, cap, cur, rfl, hB, hb, hc, hl, ht⟩
  · omega
  refine ret_of 13 Tryz.func129 rfl rfl (by simp) ?_
  refine au ?_
  refine rn_draw (fun w' => Keep [] w w') [9] hMix ?_
  have hS : Keep [] w w.drew := (Keep.refl _ _).drew
  generalize w.drew = w2 at *
  refine tk 0 ?_
  refine tk 1 ?_
  refine tk 2 ?_
  refine dr_val 3 (.slice (some ⟨g, 0, none⟩) L.length cap) rfl (by decide +kernel) rfl rfl (fun w9 hS9 => val_load1 hT rfl rfl rfl ((hS9.blk h.bk (by simp)).cell rfl)) hS ?_
  refine tk 4 ?_
  refine tk 5 ?_
  refine dr_op 6 rfl (by decide +kernel) rfl rfl (opTo_call (fst := []) (cap := []) rfl rfl rfl rfl (by decide +kernel) ((mnext_ret (h.keep0 hS)).mono ?_))
  rintro r' w2' ⟨rfl, hww⟩
  rw [hww]
  refine ⟨fun _ => hS, ?_⟩
  refine dr_any 7 _ rfl (by decide +kernel) rfl rfl (fun w => val_index p.length hT rfl rfl rfl rfl rfl (by omega) w) ?_
  refine tk 8 ?_
  have hb2 := hS.blk hb (by simp)
  refine dr_op 9 rfl (by decide +kernel) rfl rfl (opTo_storeN [.int .i64 (L.length : Nat)] rfl rfl rfl rfl size_mn hb2 (by simp; omega) (mone rfl) ?_)
  intro w3 hs3 hk3 hb3
  refine ⟨fun h => absurd (by simp) h, ?_⟩
  refine dr_done (by decide +kernel) ?_
  have h2 := h.keep0 hS
  have hgb : g ≠ b := Blk.ne hb h.bk neMI.symm
  refine au ?_
  refine rn_end Tryz.func129 (.inr (.inl ⟨rfl, rfl⟩)) ⟨rfl, ⟨.slice (some ⟨g, 0, none⟩) L.length cap, h2.kp.trB hk3 hB, h.ge, hk3.blk h2.bk (by simpa using hgb.symm), ?_⟩, (Mf.of0 hS).tr (Mf.of hk3 fun k hm => ⟨cur, tIn, by rw [List.mem_singleton.1 hm]; exact hb2, .inr rfl⟩)⟩
  have e : (p ++ (op, (((p ++ (op, a, c, n) :: r).length : Nat) : Int), c, n) :: r).length = L.length := by rw [hL]; simp
  refine ⟨isC_length _, .inr ⟨g, cap, _, by rw [e], hB, hb3, by rw [e]; exact hc, by rw [splice_length (by simp; omega)]; exact hl, ?_⟩⟩
  rw [e]
  rw [hL] at ht ⊢
  exact splice_row _ ht

theorem mcell_ret {vs : List VarT} {bd : List ST} {F : Nat → Prop} (C : CxK vs bd F w0 vv bv) (h : Mk w0 w b v l vv bv) (k : Int) : Ret Tryz.prog 101 [.pointer (some ⟨b, 0, none⟩), .int .i64 k] w fun r w' => r = .int .i64 (cellOf vs k) ∧ Keep [] w w' := by
  refine ret_of 11 Tryz.func101 rfl rfl (by simp) ?_
  refine au ?_
  refine pl_val (.agg #[vv, bv]) rfl rfl (val_load [vv, bv] hT rfl rfl rfl (h.bk.range (by rfl))) ?_
  refine au ?_
  refine pl_op rfl rfl (opTo_call (fst := []) (cap := []) rfl rfl rfl rfl (by decide +kernel) ((cell_ret (C.pr.keep h.kp C.hF.stays) (C.hF.keep h.kp) C.sz k).mono ?_))
  rintro r w1 ⟨rfl, hk1⟩
  refine au ?_
  exact rn_ret Tryz.func101 (.inl ⟨_, rfl, rfl⟩) ⟨rfl, hk1⟩

theorem msize_ret {vs : List VarT} {bd : List ST} {F : Nat → Prop} (C : CxK vs bd F w0 vv bv) (h : Mk w0 w b v l vv bv) (k : Int) (h0 : 0 ≤ k) (hk : k.toNat < vs.length) : Ret Tryz.prog 102 [.pointer (some ⟨b, 0, none⟩), .int .i64 k] w fun r w' => r = .int .i64 (sizeV vs k) ∧ w' = w := by
  obtain ⟨k, rfl⟩ : ∃ k' : Nat, k = (k' : Nat) := ⟨k.toNat, by omega⟩
  simp only [Int.toNat_natCast] at hk
  have hxv : vs[k]? = some vs[k] := List.getElem?_eq_getElem hk
  obtain ⟨vv', bv', hpe, hv, _⟩ := C.pr
  cases hpe
  obtain ⟨vb, vq, vc, rfl, hFv, hrv⟩ := hv.at hxv
  have hsv : sizeV vs ((k : Nat) : Int) = vs[k].2 := by
    unfold sizeV
    rw [Int.toNat_natCast, List.getD_eq_getElem?_getD, hxv]
    rfl
  rw [hsv]
  refine ret_of 14 Tryz.func102 rfl rfl (by simp) ?_
  refine au ?_
  refine pl_val _ rfl rfl (val_load1 hT rfl rfl rfl (h.bk.cell rfl)) ?_
  refine au ?_
  refine pl_val _ rfl rfl (val_index k hT rfl rfl rfl rfl rfl hk w) ?_
  refine au ?_
  refine pl_val _ rfl rfl (val_load1 hT rfl rfl rfl ((range_keep hrv h.kp (C.hF _ hFv) (by simp)) 1 (.int .i64 vs[k].2) rfl)) ?_
  refine au ?_
  exact rn_ret Tryz.func102 (.inl ⟨_, rfl, rfl⟩) ⟨rfl, rfl⟩
end
end E
end Go.Proofs.YtmplkogkphmmjafGreat

/- The landed maker: contract of expr. -/
namespace Go.Proofs.YtmplkogkphmmjafGreat
set_option maxRecDepth 20000
set_option maxHeartbeats 4000000
namespace E
open Go.Proofs

theorem neEM : 94 ≠ tMk := by decide
theorem neEI : 94 ≠ tIn := by decide
theorem zero_me : ((Tryz.prog.info? 94).bind (·.zero)).map (·.cells) = some [Value.int .i64 0, .int .i64 0, .int .i64 0, .slice none 0 0].toArray := by kernel_rfl
theorem size_me : sizeOk Tryz.prog 94 4 = true := by kernel_rfl

/-- expr does for what is smaller. -/
def ExM (vs : List VarT) (F : Nat → Prop) (w0 : World) (b : Nat) (vv bv : Value) (s : Nat) : Prop := ∀ (t : ET), szE t < s → gdE vs.length t → ∀ {w : World} {cs : List Value} {L : List Is}, ExprV F w0 cs t → Mt w0 w b L vv bv → L.length + szE t ≤ 900000 →
    Ret Tryz.prog 100 [.pointer (some ⟨b, 0, none⟩), .agg cs.toArray] w fun r w' => r = .tuple #[] ∧ Mt w0 w' b (L ++ insE vs t) vv bv ∧ Mf w w'

theorem mexpr_ret {vs : List VarT} {bd : List ST} {F : Nat → Prop} {w0 : World} {vv bv : Value} (C : CxK vs bd F w0 vv bv) {b : Nat} : ∀ (s : Nat), ExM vs F w0 b vv bv s := by
  intro s
  induction s with
  | zero => intro t ht; omega
  | succ s ihs =>
    intro t ht hgd w cs L hX h hl
    obtain ⟨op, v, n, l⟩ := t
    obtain ⟨lv, rfl, hE⟩ := hX.inv
    obtain ⟨a, cap, rfl⟩ := hE.form
    obtain ⟨hg1, hg2⟩ := hgd
    simp only [szE] at ht hl
    have hlen := szEs_len l
    have hil := insEs_len vs l
    refine ret_of 49 Tryz.func100 rfl rfl (by simp) ?_
    refine au ?_
    refine pl_op rfl rfl (opTo_boxN [.int .i64 op, .int .i64 v, .int .i64 n, .slice a l.length cap] rfl rfl rfl ?_)
    intro w1 x1 hx1 hs1 hk1 hX1
    have h1 := h.keep0 hk1
    refine auj ?_
    refine rn_seq ?_
    refine rn_seq ?_
    refine auj ?_
    refine rn_plain ?_
    refine auj ?_
    refine pl_val _ rfl rfl (val_load1 hT rfl rfl rfl (hX1.cell rfl)) ?_
    refine au ?_
    refine rn_ind (fun m σ w' => ∃ i : Nat, i ≤ l.length ∧ m = l.length - i ∧ σ = [(0, .pointer (some ⟨b, 0, none⟩)), (3, .pointer (some ⟨x1, 0, none⟩)), (8, .slice a l.length cap), (9, .int .i64 (l.length : Nat)), (10, .int .i64 (i : Nat))] ∧ Mt w0 w' b (L ++ insEs vs (l.take i)) vv bv ∧ Mf w1 w') l.length _ ?_ ⟨0, by omega, by omega, rfl, by simpa [insEs] using h1, Mf.refl _⟩ ?_
    · exact ⟨rfl, rfl, rfl, rfl, rfl, trivial⟩
    rintro m σ w6 ih ⟨i, hi, rfl, rfl, h6, ho6⟩
    refine au ?_
    by_cases hlt : i < l.length
    · refine ye ?_
      have hxi : l[i]? = some l[i] := List.getElem?_eq_getElem hlt
      obtain ⟨b1, q1, c1, ci, hv1, hF1, hr1, hc1⟩ := hE.at hxi
      cases hv1
      have hszi := szEs_succ hxi
      have hszt := szEs_take l (i + 1)
      have hl1 := insEs_len vs (l.take i)
      have htk := insEs_take vs hxi
      refine au ?_
      refine pl_val _ rfl rfl (val_index i hT rfl rfl rfl rfl rfl hlt w6) ?_
      refine pl_val (.agg ci.toArray) rfl rfl (val_load ci hT rfl rfl (by rw [hc1.length]; rfl) (range_keep hr1 h6.kp (C.hF _ hF1) (by simp))) ?_
      refine pl_op rfl rfl (opTo_allocN _ rfl zero_me ?_)
      intro w7 x2 hx2 hs7 hk7 hb7
      refine pl_op rfl rfl (opTo_storeN ci rfl rfl rfl rfl (by rw [hc1.length]; exact size_me) hb7 (by rw [hc1.length]; simp) hc1.one ?_)
      intro w8 hs8 hk8 hb8
      rw [splice_whole (by rw [hc1.length]; rfl)] at hb8
      have hk68 : Keep [] w6 w8 := hk7.trB hk8 (by omega)
      refine au ?_
      refine pl_val (.agg ci.toArray) rfl rfl (val_load ci hT rfl rfl (by rw [hc1.length]; rfl) (hb8.range (by simp))) ?_
      refine pl_op rfl rfl (opTo_call (fst := []) (cap := []) rfl rfl rfl rfl (by decide +kernel) ((ihs l[i] (by omega) (gdEs_at hg2 hxi) hc1 (h6.keep0 hk68) (by simp only [List.length_append]; omega)).mono ?_))
      rintro r w9 ⟨rfl, h9, ho9⟩
      refine au ?_
      refine pl_num (((i + 1 : Nat) : Int)) rfl rfl rfl rfl rfl (by simp only [ariP]; omega) ?_
      refine au ?_
      refine rn_sub ?_ (ih (l.length - (i + 1)) [(0, .pointer (some ⟨b, 0, none⟩)), (3, .pointer (some ⟨x1, 0, none⟩)), (8, .slice (some ⟨b1, q1, none⟩) l.length cap), (9, .int .i64 (l.length : Nat)), (10, .int .i64 ((i + 1 : Nat) : Int))] w9 (by omega) ⟨i + 1, by omega, rfl, rfl, ?_, (ho6.tr (Mf.of0 hk68)).tr ho9⟩)
      · exact ⟨rfl, rfl, rfl, rfl, rfl, trivial⟩
      · rw [htk, ← List.append_assoc]
        exact h9
    · refine nay ?_
      rw [List.take_of_length_le (by omega)] at h6
      have hX6 := ho6.blk hX1 neEM neEI
      refine au ?_
      refine pl_val _ rfl rfl (val_load1 hT rfl rfl rfl (hX6.cell rfl)) ?_
      refine au ?_
      refine pl_val _ rfl rfl (val_load1 hT rfl rfl rfl (hX6.cell rfl)) ?_
      refine pl_val _ rfl rfl (val_build _ rfl rfl (built_mi03 op n) w6) ?_
      refine pl_op rfl rfl (opTo_allocN _ rfl zero_mi ?_)
      intro w7 x7 hx7 hs7 hk7 hb7
      refine pl_op rfl rfl (opTo_storeN (iC (op, 0, 0, n)) rfl rfl rfl rfl size_mi hb7 (by simp [iC]) (iC_mone _) ?_)
      intro w8 hs8 hk8 hb8
      rw [splice_whole (by rfl)] at hb8
      have hk68 : Keep [] w6 w8 := hk7.trB hk8 (by omega)
      have hX8 := hk68.blk hX6 (by simp)
      obtain ⟨mv, h8⟩ := h6.keep0 hk68
      refine auj ?_
      refine rn_seq ?_
      refine rn_with (fun σ' w' => Blk w' x7 (iC (op, if op = 2 ∨ op = 3 then cellOf vs v else 0, if op = 3 then sizeV vs v else 0, n)) tIn ∧ Keep [] w6 w' ∧ Sub [(0, .pointer (some ⟨b, 0, none⟩)), (6, .pointer (some ⟨x7, 0, none⟩))] σ') ?_ ?_
      rotate_left
      · intro fin
        refine au ?_
        refine pl_val _ rfl rfl (val_load1 hT rfl rfl rfl (hX8.cell rfl)) ?_
        refine au ?_
        by_cases h2 : op = 2
        · rw [if_pos (.inl h2), if_neg (by omega)] at fin
          refine ye ?_
          refine auj ?_
          refine rn_plain ?_
          refine auj ?_
          refine pl_val _ rfl rfl (val_load1 hT rfl rfl rfl (hX8.cell rfl)) ?_
          refine pl_op rfl rfl (opTo_call (fst := []) (cap := []) rfl rfl rfl rfl (by decide +kernel) ((mcell_ret C h8 v).mono ?_))
          rintro r w9 ⟨rfl, hk9⟩
          refine au ?_
          refine pl_op rfl rfl (opTo_storeN [.int .i64 (cellOf vs v)] rfl rfl rfl rfl size_mn (hk9.blk hb8 (by simp)) (by simp [iC]) (mone rfl) ?_)
          intro w10 hs10 hk10 hb10
          refine auj ?_
          exact fin _ _ ⟨hb10, (hk68.tr hk9).trB hk10 (by omega), rfl, rfl, trivial⟩
        · refine nay ?_
          refine au ?_
          by_cases h3 : op = 3
          · obtain ⟨hv0, hvl⟩ := hg1 (.inr h3)
            rw [if_pos (.inr h3), if_pos h3] at fin
            refine ye ?_
            refine auj ?_
            refine rn_draw (fun w' => Keep [] w8 w') [9, 11] hMix ?_
            have hS : Keep [] w8 w8.drew := (Keep.refl _ _).drew
            generalize w8.drew = w9 at *
            refine tk 0 ?_
            refine tk 1 ?_
            refine dr_val 2 (.int .i64 v) rfl (by decide +kernel) rfl rfl (fun w9 hS9 => val_load1 hT rfl rfl rfl ((hS9.blk hX8 (by simp)).cell rfl)) hS ?_
            refine tk 4 ?_
            refine tk 5 ?_
            refine dr_val 6 (.int .i64 v) rfl (by decide +kernel) rfl rfl (fun w9 hS9 => val_load1 hT rfl rfl rfl ((hS9.blk hX8 (by simp)).cell rfl)) hS ?_
            refine dr_op 3 rfl (by decide +kernel) rfl rfl (opTo_call (fst := []) (cap := []) rfl rfl rfl rfl (by decide +kernel) ((mcell_ret C (h8.keep0 hS) v).mono ?_))
            rintro r w10 ⟨rfl, hk10⟩
            have hS10 := hS.tr hk10
            refine ⟨fun _ => hS10, ?_⟩
            refine tk 8 ?_
            refine dr_op 7 rfl (by decide +kernel) rfl rfl (opTo_call (fst := []) (cap := []) rfl rfl rfl rfl (by decide +kernel) ((msize_ret C (h8.keep0 hS10) v hv0 hvl).mono ?_))
            rintro r w10' ⟨rfl, hww⟩
            rw [hww]
            refine ⟨fun _ => hS10, ?_⟩
            refine dr_op 9 rfl (by decide +kernel) rfl rfl (opTo_storeN [.int .i64 (cellOf vs v)] rfl rfl rfl rfl size_mn (hS10.blk hb8 (by simp)) (by simp [iC]) (mone rfl) ?_)
            intro w11 hs11 hk11 hb11
            refine ⟨fun h => absurd (by simp) h, ?_⟩
            refine tk 10 ?_
            refine dr_op 11 rfl (by decide +kernel) rfl rfl (opTo_storeN [.int .i64 (sizeV vs v)] rfl rfl rfl rfl size_mn hb11 (by simp [iC, splice]) (mone rfl) ?_)
            intro w12 hs12 hk12 hb12
            refine ⟨fun h => absurd (by simp) h, ?_⟩
            refine dr_done (by decide +kernel) ?_
            refine auj ?_
            exact fin _ _ ⟨hb12, ((hk68.tr hS10).trB hk11 (by omega)).trB hk12 (by omega), rfl, rfl, trivial⟩
          · refine nay ?_
            rw [if_neg (by omega), if_neg h3] at fin
            refine auj ?_
            exact fin _ _ ⟨hb8, hk68, rfl, rfl, trivial⟩
      clear hb8 hk8 hs8 h8 hX8 hk68
      rintro σ' w10 ⟨hb10, hk610, hsub⟩
      refine rn_sub hsub ?_
      obtain ⟨X, hXe⟩ : ∃ X : Is, X = (op, if op = 2 ∨ op = 3 then cellOf vs v else 0, if op = 3 then sizeV vs v else 0, n) := ⟨_, rfl⟩
      rw [← hXe] at hb10
      refine rn_draw (fun w' => Keep [] w10 w') [4] hMix ?_
      have hS : Keep [] w10 w10.drew := (Keep.refl _ _).drew
      generalize w10.drew = w11 at *
      refine tk 0 ?_
      refine tk 1 ?_
      refine tk 2 ?_
      refine dr_val 3 (.agg (iC X).toArray) rfl (by decide +kernel) rfl rfl (fun w9 hS9 => val_load (iC X) hT rfl rfl rfl ((hS9.blk hb10 (by simp)).range (by rfl))) hS ?_
      refine dr_op 4 rfl (by decide +kernel) rfl rfl (opTo_call (fst := []) (cap := []) rfl rfl rfl rfl (by decide +kernel) ((madd_ret (h6.keep0 (hk610.tr hS)) X (by simp only [List.length_append]; omega)).mono ?_))
      rintro r w12 ⟨rfl, h12, ho12⟩
      refine ⟨fun h => absurd (by simp) h, ?_⟩
      refine dr_done (by decide +kernel) ?_
      refine au ?_
      refine rn_end Tryz.func100 (.inr (.inl ⟨rfl, rfl⟩)) ⟨rfl, ?_, ((Mf.of0 hk1).tr ho6).tr ((Mf.of0 (hk610.tr hS)).tr ho12)⟩
      simp only [insE]
      rw [← hXe, ← List.append_assoc]
      exact h12
end E
end Go.Proofs.YtmplkogkphmmjafGreat

/- The landed maker: contracts of stmts, loop, choice, stmt, and of Make. -/
namespace Go.Proofs.YtmplkogkphmmjafGreat
set_option maxRecDepth 20000
set_option maxHeartbeats 4000000
namespace E
open Go.Proofs

theorem neSM : 97 ≠ tMk := by decide
theorem neSI : 97 ≠ tIn := by decide
theorem zero_mt : ((Tryz.prog.info? 97).bind (·.zero)).map (·.cells) = some stmtZ.toArray := by kernel_rfl
theorem size_mt : sizeOk Tryz.prog 97 12 = true := by kernel_rfl
theorem list4m {l : List Value} (h : l.length = 4) : ∃ a b c d, l = [a, b, c, d] := by
  match l, h with
  | [a, b, c, d], _ => exact ⟨a, b, c, d, rfl⟩

/-- What loop and choice make behind what there is. -/
def whT (i0 : Nat) (L X : List Is) : List Is := L ++ (13, ((L.length + 1 + X.length + 1 : Nat) : Int), 0, 0) :: (X ++ [(14, ((i0 : Nat) : Int), 0, 0)])
def ifT (L X Y : List Is) : List Is := L ++ (13, ((L.length + 1 + X.length + 1 : Nat) : Int), 0, 0) :: (X ++ (14, ((L.length + 1 + X.length + 1 + Y.length : Nat) : Int), 0, 0) :: Y)

section
variable {w0 w : World} {b : Nat} {vv bv : Value}
theorem mleadT {l l' p r : List Is} {op a c n : Int} (k : Nat) (h : Mt w0 w b l vv bv) (hk : k = p.length) (hl : l = p ++ (op, a, c, n) :: r) (hl' : l' = p ++ (op, ((l.length : Nat) : Int), c, n) :: r) : Ret Tryz.prog 129 [.pointer (some ⟨b, 0, none⟩), .int .i64 (k : Nat)] w fun r' w' => r' = .tuple #[] ∧ Mt w0 w' b l' vv bv ∧ Mf w w' := by
  subst hk hl hl'
  exact mlead_ret h
theorem maddT {l l' : List Is} (k : Nat) (h : Mt w0 w b l vv bv) (x : Is) (hl : l.length ≤ 900000) (hk : k = l.length) (hl' : l' = l ++ [x]) : Ret Tryz.prog 47 [.pointer (some ⟨b, 0, none⟩), .agg (iC x).toArray] w fun r w' => r = .int .i64 (k : Nat) ∧ Mt w0 w' b l' vv bv ∧ Mf w w' := by
  subst hk hl'
  exact madd_ret h x hl
end

/-- stmt does for what is smaller. -/
def StM (vs : List VarT) (F : Nat → Prop) (w0 : World) (b : Nat) (vv bv : Value) (s : Nat) : Prop := ∀ (t : ST), szS t < s → gdS vs.length t → ∀ {w : World} {cs : List Value} {L : List Is}, StmtV F w0 cs t → Mt w0 w b L vv bv → L.length + 2 * szS t ≤ 900000 →
    Ret Tryz.prog 77 [.pointer (some ⟨b, 0, none⟩), .agg cs.toArray] w fun r w' => r = .tuple #[] ∧ Mt w0 w' b (L ++ insS vs t L.length) vv bv ∧ Mf w w'

section
variable {vs : List VarT} {bd : List ST} {F : Nat → Prop} {w0 : World} {vv bv : Value} {b s : Nat}
theorem mstmts_ret (hF : In F w0) (hst : StM vs F w0 b vv bv s) (l : List ST) (hls : szSs l < s) (hgd : gdSs vs.length l) {w : World} {x : Value} {L : List Is} (hE : StmtsV F w0 x l) (h : Mt w0 w b L vv bv) (hl : L.length + 2 * szSs l ≤ 900000) :
    Ret Tryz.prog 46 [.pointer (some ⟨b, 0, none⟩), x] w fun r w' => r = .tuple #[] ∧ Mt w0 w' b (L ++ insSs vs l L.length) vv bv ∧ Mf w w' := by
  obtain ⟨a, cap, rfl⟩ := hE.form
  have hlen := szSs_len l
  refine ret_of 16 Tryz.func46 rfl rfl (by simp) ?_
  refine au ?_
  refine rn_ind (fun m σ w' => ∃ i : Nat, i ≤ l.length ∧ m = l.length - i ∧ σ = [(0, .pointer (some ⟨b, 0, none⟩)), (6, .slice a l.length cap), (7, .int .i64 (l.length : Nat)), (8, .int .i64 (i : Nat))] ∧ Mt w0 w' b (L ++ insSs vs (l.take i) L.length) vv bv ∧ Mf w w') l.length _ ?_ ⟨0, by omega, by omega, rfl, by simpa [insSs] using h, Mf.refl _⟩ ?_
  · exact ⟨rfl, rfl, rfl, rfl, trivial⟩
  rintro m σ w6 ih ⟨i, hi, rfl, rfl, h6, ho6⟩
  refine au ?_
  by_cases hlt : i < l.length
  · refine ye ?_
    have hxi : l[i]? = some l[i] := List.getElem?_eq_getElem hlt
    obtain ⟨b1, q1, c1, ci, hv1, hF1, hr1, hc1⟩ := hE.at hxi
    cases hv1
    have hszi := szSs_succ hxi
    have hszt := szSs_take l (i + 1)
    have hl1 := insSs_len vs (l.take i) L.length
    have htk := insSs_take vs hxi L.length
    refine au ?_
    refine pl_val _ rfl rfl (val_index i hT rfl rfl rfl rfl rfl hlt w6) ?_
    refine pl_val (.agg ci.toArray) rfl rfl (val_load ci hT rfl rfl (by rw [hc1.length]; rfl) (range_keep hr1 h6.kp (hF _ hF1) (by simp))) ?_
    refine pl_op rfl rfl (opTo_allocN _ rfl zero_mt ?_)
    intro w7 x2 hx2 hs7 hk7 hb7
    refine pl_op rfl rfl (opTo_storeN ci rfl rfl rfl rfl (by rw [hc1.length]; exact size_mt) hb7 (by rw [hc1.length]; simp [stmtZ]) hc1.one ?_)
    intro w8 hs8 hk8 hb8
    rw [splice_whole (by rw [hc1.length]; rfl)] at hb8
    have hk68 : Keep [] w6 w8 := hk7.trB hk8 (by omega)
    refine au ?_
    refine pl_val (.agg ci.toArray) rfl rfl (val_load ci hT rfl rfl (by rw [hc1.length]; rfl) (hb8.range (by simp))) ?_
    refine pl_op rfl rfl (opTo_call (fst := []) (cap := []) rfl rfl rfl rfl (by decide +kernel) ((hst l[i] (by omega) (gdSs_at hgd hxi) hc1 (h6.keep0 hk68) (by simp only [List.length_append]; omega)).mono ?_))
    rintro r w9 ⟨rfl, h9, ho9⟩
    refine au ?_
    refine pl_num (((i + 1 : Nat) : Int)) rfl rfl rfl rfl rfl (by simp only [ariP]; omega) ?_
    refine au ?_
    refine rn_sub ?_ (ih (l.length - (i + 1)) [(0, .pointer (some ⟨b, 0, none⟩)), (6, .slice (some ⟨b1, q1, none⟩) l.length cap), (7, .int .i64 (l.length : Nat)), (8, .int .i64 ((i + 1 : Nat) : Int))] w9 (by omega) ⟨i + 1, by omega, rfl, rfl, ?_, (ho6.tr (Mf.of0 hk68)).tr ho9⟩)
    · exact ⟨rfl, rfl, rfl, rfl, trivial⟩
    · rw [htk, ← List.append_assoc]
      rw [List.length_append] at h9
      exact h9
  · refine nay ?_
    rw [List.take_of_length_le (by omega)] at h6
    refine au ?_
    exact rn_end Tryz.func46 (.inr (.inl ⟨rfl, rfl⟩)) ⟨rfl, h6, ho6⟩
theorem mstmtsT (hF : In F w0) (hst : StM vs F w0 b vv bv s) (l : List ST) (hls : szSs l < s) (hgd : gdSs vs.length l) {w : World} {x : Value} {L L' : List Is} (i0 : Nat) (hE : StmtsV F w0 x l) (h : Mt w0 w b L vv bv) (hl : L.length + 2 * szSs l ≤ 900000) (hi : i0 = L.length) (hL' : L' = L ++ insSs vs l i0) :
    Ret Tryz.prog 46 [.pointer (some ⟨b, 0, none⟩), x] w fun r w' => r = .tuple #[] ∧ Mt w0 w' b L' vv bv ∧ Mf w w' := by
  subst hi hL'
  exact mstmts_ret hF hst l hls hgd hE h hl

theorem mloop_ret (hF : In F w0) (hst : StM vs F w0 b vv bv s) (l : List ST) (hls : szSs l < s) (hgd : gdSs vs.length l) (i0 : Nat) {w : World} {x : Value} {L : List Is} (hE : StmtsV F w0 x l) (h : Mt w0 w b L vv bv) (hl : L.length + 2 * szSs l + 2 ≤ 900000) :
    Ret Tryz.prog 103 [.pointer (some ⟨b, 0, none⟩), .int .i64 (i0 : Nat), x] w fun r w' => r = .tuple #[] ∧ Mt w0 w' b (whT i0 L (insSs vs l (L.length + 1))) vv bv ∧ Mf w w' := by
  have hXl := insSs_len vs l (L.length + 1)
  obtain ⟨X, hX⟩ : ∃ X, X = insSs vs l (L.length + 1) := ⟨_, rfl⟩
  rw [← hX] at hXl ⊢
  refine ret_of 26 Tryz.func103 rfl rfl (by simp) ?_
  refine au ?_
  refine pl_val _ rfl rfl (val_build _ rfl rfl (built_mi0 13) w) ?_
  refine pl_op rfl rfl (opTo_call (fst := []) (cap := []) rfl rfl rfl rfl (by decide +kernel) ((madd_ret h (13, 0, 0, 0) (by omega)).mono ?_))
  rintro r w1 ⟨rfl, h1, ho1⟩
  refine au ?_
  refine pl_op rfl rfl (opTo_call (fst := []) (cap := []) rfl rfl rfl rfl (by decide +kernel) ((mstmtsT hF hst l hls hgd (L' := L ++ (13, 0, 0, 0) :: X) (L.length + 1) hE h1 (by simp; omega) (by simp) (by rw [hX]; simp)).mono ?_))
  rintro r w2 ⟨rfl, h2, ho2⟩
  refine au ?_
  refine pl_val _ rfl rfl (val_build _ rfl rfl (built_mi1 14 ((i0 : Nat) : Int)) w2) ?_
  refine pl_op rfl rfl (opTo_call (fst := []) (cap := []) rfl rfl rfl rfl (by decide +kernel) ((madd_ret h2 (14, ((i0 : Nat) : Int), 0, 0) (by simp; omega)).mono ?_))
  rintro r w3 ⟨rfl, h3, ho3⟩
  refine au ?_
  refine pl_op rfl rfl (opTo_call (fst := []) (cap := []) rfl rfl rfl rfl (by decide +kernel) ((mleadT (op := 13) (a := 0) (c := 0) (n := 0) (l' := whT i0 L X) (p := L) (r := X ++ [(14, ((i0 : Nat) : Int), 0, 0)]) L.length h3 rfl (by simp) (by simp [whT]; omega)).mono ?_))
  rintro r w4 ⟨rfl, h4, ho4⟩
  refine au ?_
  exact rn_end Tryz.func103 (.inr (.inl ⟨rfl, rfl⟩)) ⟨rfl, h4, ((ho1.tr ho2).tr ho3).tr ho4⟩

theorem mchoice_ret (hF : In F w0) (hst : StM vs F w0 b vv bv s) (l lo : List ST) (hls : szSs l + szSs lo < s) (hgd : gdSs vs.length l) (hgo : gdSs vs.length lo) {w : World} {x y : Value} {L : List Is} (hE : StmtsV F w0 x l) (hO : StmtsV F w0 y lo) (h : Mt w0 w b L vv bv) (hl : L.length + 2 * szSs l + 2 * szSs lo + 2 ≤ 900000) :
    Ret Tryz.prog 104 [.pointer (some ⟨b, 0, none⟩), x, y] w fun r w' => r = .tuple #[] ∧ Mt w0 w' b (ifT L (insSs vs l (L.length + 1)) (insSs vs lo (L.length + 1 + (insSs vs l (L.length + 1)).length + 1))) vv bv ∧ Mf w w' := by
  have hXl := insSs_len vs l (L.length + 1)
  obtain ⟨X, hX⟩ : ∃ X, X = insSs vs l (L.length + 1) := ⟨_, rfl⟩
  rw [← hX] at hXl ⊢
  have hYl := insSs_len vs lo (L.length + 1 + X.length + 1)
  obtain ⟨Y, hY⟩ : ∃ Y, Y = insSs vs lo (L.length + 1 + X.length + 1) := ⟨_, rfl⟩
  rw [← hY] at hYl ⊢
  refine ret_of 34 Tryz.func104 rfl rfl (by simp) ?_
  refine au ?_
  refine pl_val _ rfl rfl (val_build _ rfl rfl (built_mi0 13) w) ?_
  refine pl_op rfl rfl (opTo_call (fst := []) (cap := []) rfl rfl rfl rfl (by decide +kernel) ((madd_ret h (13, 0, 0, 0) (by omega)).mono ?_))
  rintro r w1 ⟨rfl, h1, ho1⟩
  refine au ?_
  refine pl_op rfl rfl (opTo_call (fst := []) (cap := []) rfl rfl rfl rfl (by decide +kernel) ((mstmtsT hF hst l (by omega) hgd (L' := L ++ (13, 0, 0, 0) :: X) (L.length + 1) hE h1 (by simp; omega) (by simp) (by rw [hX]; simp)).mono ?_))
  rintro r w2 ⟨rfl, h2, ho2⟩
  refine au ?_
  refine pl_val _ rfl rfl (val_build _ rfl rfl (built_mi0 14) w2) ?_
  refine pl_op rfl rfl (opTo_call (fst := []) (cap := []) rfl rfl rfl rfl (by decide +kernel) ((maddT (l' := L ++ (13, 0, 0, 0) :: (X ++ [(14, 0, 0, 0)])) (L.length + 1 + X.length) h2 (14, 0, 0, 0) (by simp; omega) (by simp; omega) (by simp)).mono ?_))
  rintro r w3 ⟨rfl, h3, ho3⟩
  refine au ?_
  refine pl_op rfl rfl (opTo_call (fst := []) (cap := []) rfl rfl rfl rfl (by decide +kernel) ((mleadT (op := 13) (a := 0) (c := 0) (n := 0) (l' := L ++ (13, ((L.length + 1 + X.length + 1 : Nat) : Int), 0, 0) :: (X ++ [(14, 0, 0, 0)])) (p := L) (r := X ++ [(14, 0, 0, 0)]) L.length h3 rfl rfl (by simp; omega)).mono ?_))
  rintro r w4 ⟨rfl, h4, ho4⟩
  refine au ?_
  refine pl_op rfl rfl (opTo_call (fst := []) (cap := []) rfl rfl rfl rfl (by decide +kernel) ((mstmtsT hF hst lo (by omega) hgo (L' := (L ++ (13, ((L.length + 1 + X.length + 1 : Nat) : Int), 0, 0) :: X) ++ (14, 0, 0, 0) :: Y) (L.length + 1 + X.length + 1) hO h4 (by simp; omega) (by simp; omega) (by rw [hY]; simp)).mono ?_))
  rintro r w5 ⟨rfl, h5, ho5⟩
  refine au ?_
  refine pl_op rfl rfl (opTo_call (fst := []) (cap := []) rfl rfl rfl rfl (by decide +kernel) ((mleadT (op := 14) (a := 0) (c := 0) (n := 0) (l' := ifT L X Y) (p := L ++ (13, ((L.length + 1 + X.length + 1 : Nat) : Int), 0, 0) :: X) (r := Y) (L.length + 1 + X.length) h5 (by simp; omega) rfl (by simp [ifT]; omega)).mono ?_))
  rintro r w6 ⟨rfl, h6, ho6⟩
  refine au ?_
  exact rn_end Tryz.func104 (.inr (.inl ⟨rfl, rfl⟩)) ⟨rfl, h6, ((((ho1.tr ho2).tr ho3).tr ho4).tr ho5).tr ho6⟩
end

theorem mstmt_ret {vs : List VarT} {bd : List ST} {F : Nat → Prop} {w0 : World} {vv bv : Value} (C : CxK vs bd F w0 vv bv) {b : Nat} : ∀ (s : Nat), StM vs F w0 b vv bv s := by
  intro s
  induction s with
  | zero => intro t ht; omega
  | succ s ihs =>
    intro t ht hgd w cs L hX h hl
    obtain ⟨op, v, e, f, lb, lo⟩ := t
    obtain ⟨ce, cf, bv', ov, rfl, he, hf, hb, ho⟩ := hX.inv
    obtain ⟨e0, e1, e2, e3, rfl⟩ := list4m he.length
    obtain ⟨f0, f1, f2, f3, rfl⟩ := list4m hf.length
    obtain ⟨ba, bc, rfl⟩ := hb.form
    obtain ⟨oa, oc, rfl⟩ := ho.form
    obtain ⟨hp1, hp2, hp3, hp4, hp5, hp6, hp7⟩ := hgd
    simp only [szS] at ht hl
    have hel := eI_len vs op e
    obtain ⟨E, hEdef⟩ : ∃ E, eI vs op e = E := ⟨_, rfl⟩
    rw [hEdef] at hel
    refine ret_of 100 Tryz.func77 rfl rfl (by simp) ?_
    refine au ?_
    refine pl_op rfl rfl (opTo_boxN [.int .i64 op, .int .i64 v, e0, e1, e2, e3, f0, f1, f2, f3, .slice ba lb.length bc, .slice oa lo.length oc] rfl rfl rfl ?_)
    intro w1 x1 hx1 hs1 hk1 hX1
    obtain ⟨mv1, h1⟩ := h.keep0 hk1
    refine au ?_
    refine pl_op rfl rfl (opTo_call (fst := []) (cap := []) rfl rfl rfl rfl (by decide +kernel) ((mnext_ret h1).mono ?_))
    rintro r w1' ⟨rfl, hww⟩
    rw [hww]
    refine auj ?_
    refine rn_seq ?_
    refine rn_with (fun σ' w' => Mt w0 w' b (L ++ E) vv bv ∧ Mf w1 w' ∧ Sub [(0, .pointer (some ⟨b, 0, none⟩)), (3, .pointer (some ⟨x1, 0, none⟩)), (4, .int .i64 (L.length : Nat))] σ') ?_ ?_
    rotate_left
    · intro fin
      refine au ?_
      refine pl_val _ rfl rfl (val_load1 hT rfl rfl rfl (hX1.cell rfl)) ?_
      obtain ⟨qe, hqe⟩ : ∃ q, q = needE op := ⟨_, rfl⟩
      refine pl_op rfl rfl (opTo_call (fst := []) (cap := []) rfl rfl rfl rfl (by decide +kernel) ((has_ret op w1).mono ?_))
      rintro r w3 ⟨hr, hww⟩
      unfold hasV at hr
      rw [← hqe] at hr
      subst hr
      rw [hww]
      unfold eI at hEdef
      rw [← hqe] at hEdef
      cases qe with
      | false =>
        refine auj ?_
        refine rn_seq ?_
        refine rn_plain ?_
        refine auj ?_
        have hE0 : E = [] := by rw [← hEdef]; rfl
        exact fin _ _ ⟨by rw [hE0, List.append_nil]; exact ⟨_, h1⟩, Mf.refl _, rfl, rfl, rfl, trivial⟩
      | true =>
        refine au ?_
        refine pl_val (.agg #[e0, e1, e2, e3]) rfl rfl (val_load [e0, e1, e2, e3] hT rfl rfl rfl (hX1.range rfl)) ?_
        refine pl_op rfl rfl (opTo_call (fst := []) (cap := []) rfl rfl rfl rfl (by decide +kernel) ((mexpr_ret C (szE e + 1) e (by omega) (hp4 hqe.symm) he (⟨_, h1⟩ : Mt w0 w1 b L vv bv) (by omega)).mono ?_))
        rintro r w4 ⟨rfl, h4, ho4⟩
        refine auj ?_
        have hE1 : E = insE vs e := by rw [← hEdef]; rfl
        exact fin _ _ ⟨by rw [hE1]; exact h4, ho4, rfl, rfl, rfl, trivial⟩
    rintro σ' w4 ⟨⟨mv, h4⟩, ho4, hsub⟩
    refine rn_sub hsub ?_
    clear hsub
    have hX4 := ho4.blk hX1 neSM neSI
    have ho04 : Mf w w4 := (Mf.of0 hk1).tr ho4
    refine au ?_
    refine pl_val _ rfl rfl (val_load1 hT rfl rfl rfl (hX4.cell rfl)) ?_
    refine au ?_
    by_cases hop1 : op = 1
    · subst hop1
      refine ye ?_
      refine au ?_
      refine rn_draw (fun w' => Keep [] w4 w') [8] hMix ?_
      have hS : Keep [] w4 w4.drew := (Keep.refl _ _).drew
      generalize w4.drew = w5 at *
      refine tk 0 ?_
      refine tk 1 ?_
      refine tk 2 ?_
      refine tk 3 ?_
      refine tk 4 ?_
      refine dr_val 5 (.int .i64 v) rfl (by decide +kernel) rfl rfl (fun w9 hS9 => val_load1 hT rfl rfl rfl ((hS9.blk hX4 (by simp)).cell rfl)) hS ?_
      refine dr_op 6 rfl (by decide +kernel) rfl rfl (opTo_call (fst := []) (cap := []) rfl rfl rfl rfl (by decide +kernel) ((mcell_ret C (h4.keep0 hS) v).mono ?_))
      rintro r w6 ⟨rfl, hk6⟩
      have hS6 := hS.tr hk6
      refine ⟨fun _ => hS6, ?_⟩
      refine dr_any 7 _ rfl (by decide +kernel) rfl rfl (fun w => val_build _ rfl rfl (built_mi1 9 (cellOf vs v)) w) ?_
      refine dr_op 8 rfl (by decide +kernel) rfl rfl (opTo_call (fst := []) (cap := []) rfl rfl rfl rfl (by decide +kernel) ((madd_ret (⟨mv, h4.keep0 hS6⟩ : Mt w0 w6 b (L ++ E) vv bv) (9, cellOf vs v, 0, 0) (by simp only [List.length_append]; omega)).mono ?_))
      rintro r w7 ⟨rfl, h7, ho7⟩
      refine ⟨fun h => absurd (by simp) h, ?_⟩
      refine dr_done (by decide +kernel) ?_
      refine au ?_
      refine rn_end Tryz.func77 (.inr (.inl ⟨rfl, rfl⟩)) ⟨rfl, ?_, (ho04.tr (Mf.of0 hS6)).tr ho7⟩
      simpa [insS, lastI, fI, needF, hEdef] using h7
    refine nay ?_
    refine au ?_
    by_cases hop2 : op = 2
    · subst hop2
      refine ye ?_
      obtain ⟨hv0, hvl⟩ := hp3 rfl
      refine au ?_
      refine pl_val (.agg #[f0, f1, f2, f3]) rfl rfl (val_load [f0, f1, f2, f3] hT rfl rfl rfl (hX4.range rfl)) ?_
      refine pl_op rfl rfl (opTo_call (fst := []) (cap := []) rfl rfl rfl rfl (by decide +kernel) ((mexpr_ret C (szE f + 1) f (by omega) (hp5 rfl) hf (⟨mv, h4⟩ : Mt w0 w4 b (L ++ E) vv bv) (by simp only [List.length_append]; omega)).mono ?_))
      rintro r w5 ⟨rfl, ⟨mv5, h5⟩, ho5⟩
      have hX5 := ho5.blk hX4 neSM neSI
      have hfl2 := insE_len vs f
      refine au ?_
      refine rn_draw (fun w' => Keep [] w5 w') [12] hMix ?_
      have hS : Keep [] w5 w5.drew := (Keep.refl _ _).drew
      generalize w5.drew = w6 at *
      refine tk 0 ?_
      refine tk 1 ?_
      refine tk 2 ?_
      refine tk 3 ?_
      refine tk 4 ?_
      refine dr_val 5 (.int .i64 v) rfl (by decide +kernel) rfl rfl (fun w9 hS9 => val_load1 hT rfl rfl rfl ((hS9.blk hX5 (by simp)).cell rfl)) hS ?_
      refine tk 7 ?_
      refine tk 8 ?_
      refine dr_val 9 (.int .i64 v) rfl (by decide +kernel) rfl rfl (fun w9 hS9 => val_load1 hT rfl rfl rfl ((hS9.blk hX5 (by simp)).cell rfl)) hS ?_
      refine dr_op 6 rfl (by decide +kernel) rfl rfl (opTo_call (fst := []) (cap := []) rfl rfl rfl rfl (by decide +kernel) ((mcell_ret C (h5.keep0 hS) v).mono ?_))
      rintro r w7 ⟨rfl, hk7⟩
      have hS7 := hS.tr hk7
      refine ⟨fun _ => hS7, ?_⟩
      refine dr_op 10 rfl (by decide +kernel) rfl rfl (opTo_call (fst := []) (cap := []) rfl rfl rfl rfl (by decide +kernel) ((msize_ret C (h5.keep0 hS7) v hv0 hvl).mono ?_))
      rintro r w7' ⟨rfl, hww⟩
      rw [hww]
      refine ⟨fun _ => hS7, ?_⟩
      refine dr_any 11 _ rfl (by decide +kernel) rfl rfl (fun w => val_build _ rfl rfl (built_mi2 10 (cellOf vs v) (sizeV vs v)) w) ?_
      refine dr_op 12 rfl (by decide +kernel) rfl rfl (opTo_call (fst := []) (cap := []) rfl rfl rfl rfl (by decide +kernel) ((madd_ret (⟨mv5, h5.keep0 hS7⟩ : Mt w0 w7 b (L ++ E ++ insE vs f) vv bv) (10, cellOf vs v, sizeV vs v, 0) (by simp only [List.length_append]; omega)).mono ?_))
      rintro r w8 ⟨rfl, h8, ho8⟩
      refine ⟨fun h => absurd (by simp) h, ?_⟩
      refine dr_done (by decide +kernel) ?_
      refine au ?_
      refine rn_end Tryz.func77 (.inr (.inl ⟨rfl, rfl⟩)) ⟨rfl, ?_, ((ho04.tr ho5).tr (Mf.of0 hS7)).tr ho8⟩
      simpa [insS, lastI, fI, needF, hEdef] using h8
    refine nay ?_
    refine au ?_
    by_cases hop3 : op = 3
    · subst hop3
      refine ye ?_
      refine au ?_
      refine pl_val _ rfl rfl (val_build _ rfl rfl (built_mi0 11) w4) ?_
      refine pl_op rfl rfl (opTo_call (fst := []) (cap := []) rfl rfl rfl rfl (by decide +kernel) ((madd_ret (⟨mv, h4⟩ : Mt w0 w4 b (L ++ E) vv bv) (11, 0, 0, 0) (by simp only [List.length_append]; omega)).mono ?_))
      rintro r w5 ⟨rfl, h5, ho5⟩
      refine au ?_
      refine rn_end Tryz.func77 (.inr (.inl ⟨rfl, rfl⟩)) ⟨rfl, ?_, ho04.tr ho5⟩
      simpa [insS, lastI, fI, needF, hEdef] using h5
    refine nay ?_
    refine au ?_
    by_cases hop4 : op = 4
    · subst hop4
      refine ye ?_
      refine au ?_
      refine rn_draw (fun w' => Keep [] w4 w') [8] hMix ?_
      have hS : Keep [] w4 w4.drew := (Keep.refl _ _).drew
      generalize w4.drew = w5 at *
      refine tk 0 ?_
      refine tk 1 ?_
      refine tk 2 ?_
      refine tk 3 ?_
      refine tk 4 ?_
      refine dr_val 5 (.int .i64 v) rfl (by decide +kernel) rfl rfl (fun w9 hS9 => val_load1 hT rfl rfl rfl ((hS9.blk hX4 (by simp)).cell rfl)) hS ?_
      refine dr_op 6 rfl (by decide +kernel) rfl rfl (opTo_call (fst := []) (cap := []) rfl rfl rfl rfl (by decide +kernel) ((mcell_ret C (h4.keep0 hS) v).mono ?_))
      rintro r w6 ⟨rfl, hk6⟩
      have hS6 := hS.tr hk6
      refine ⟨fun _ => hS6, ?_⟩
      refine dr_any 7 _ rfl (by decide +kernel) rfl rfl (fun w => val_build _ rfl rfl (built_mi1 12 (cellOf vs v)) w) ?_
      refine dr_op 8 rfl (by decide +kernel) rfl rfl (opTo_call (fst := []) (cap := []) rfl rfl rfl rfl (by decide +kernel) ((madd_ret (⟨mv, h4.keep0 hS6⟩ : Mt w0 w6 b (L ++ E) vv bv) (12, cellOf vs v, 0, 0) (by simp only [List.length_append]; omega)).mono ?_))
      rintro r w7 ⟨rfl, h7, ho7⟩
      refine ⟨fun h => absurd (by simp) h, ?_⟩
      refine dr_done (by decide +kernel) ?_
      refine au ?_
      refine rn_end Tryz.func77 (.inr (.inl ⟨rfl, rfl⟩)) ⟨rfl, ?_, (ho04.tr (Mf.of0 hS6)).tr ho7⟩
      simpa [insS, lastI, fI, needF, hEdef] using h7
    refine nay ?_
    refine au ?_
    by_cases hop5 : op = 5
    · subst hop5
      refine ye ?_
      refine au ?_
      refine pl_val _ rfl rfl (val_load1 hT rfl rfl rfl (hX4.cell rfl)) ?_
      refine pl_op rfl rfl (opTo_call (fst := []) (cap := []) rfl rfl rfl rfl (by decide +kernel) ((mloop_ret C.hF ihs lb (by omega) hp6 L.length hb (⟨mv, h4⟩ : Mt w0 w4 b (L ++ E) vv bv) (by simp only [List.length_append]; omega)).mono ?_))
      rintro r w5 ⟨rfl, h5, ho5⟩
      refine au ?_
      refine rn_end Tryz.func77 (.inr (.inl ⟨rfl, rfl⟩)) ⟨rfl, ?_, ho04.tr ho5⟩
      have e9 : L ++ insS vs (.mk 5 v e f lb lo) L.length = whT L.length (L ++ E) (insSs vs lb ((L ++ E).length + 1)) := by
        rw [insS, if_pos rfl, hEdef, List.length_append]
        simp [whileI, whT, Nat.add_assoc, Nat.add_comm, Nat.add_left_comm]
      rw [e9]
      exact h5
    refine nay ?_
    refine au ?_
    by_cases hop6 : op = 6
    · subst hop6
      refine ye ?_
      refine au ?_
      refine pl_val _ rfl rfl (val_load1 hT rfl rfl rfl (hX4.cell rfl)) ?_
      refine au ?_
      refine pl_val _ rfl rfl (val_load1 hT rfl rfl rfl (hX4.cell rfl)) ?_
      refine pl_op rfl rfl (opTo_call (fst := []) (cap := []) rfl rfl rfl rfl (by decide +kernel) ((mchoice_ret C.hF ihs lb lo (by omega) hp6 hp7 hb ho (⟨mv, h4⟩ : Mt w0 w4 b (L ++ E) vv bv) (by simp only [List.length_append]; omega)).mono ?_))
      rintro r w5 ⟨rfl, h5, ho5⟩
      refine au ?_
      refine rn_end Tryz.func77 (.inr (.inl ⟨rfl, rfl⟩)) ⟨rfl, ?_, ho04.tr ho5⟩
      have e9 : L ++ insS vs (.mk 6 v e f lb lo) L.length = ifT (L ++ E) (insSs vs lb ((L ++ E).length + 1)) (insSs vs lo ((L ++ E).length + 1 + (insSs vs lb ((L ++ E).length + 1)).length + 1)) := by
        rw [insS, if_neg (by decide), if_pos rfl, hEdef, List.length_append]
        simp [ifI, ifT, Nat.add_assoc, Nat.add_comm, Nat.add_left_comm]
      rw [e9]
      exact h5
    refine nay ?_
    refine au ?_
    have hop7 : op = 7 := by omega
    subst hop7
    refine ye ?_
    refine au ?_
    refine pl_val _ rfl rfl (val_build _ rfl rfl (built_mi0 15) w4) ?_
    refine pl_op rfl rfl (opTo_call (fst := []) (cap := []) rfl rfl rfl rfl (by decide +kernel) ((madd_ret (⟨mv, h4⟩ : Mt w0 w4 b (L ++ E) vv bv) (15, 0, 0, 0) (by simp only [List.length_append]; omega)).mono ?_))
    rintro r w5 ⟨rfl, h5, ho5⟩
    refine au ?_
    refine rn_end Tryz.func77 (.inr (.inl ⟨rfl, rfl⟩)) ⟨rfl, ?_, ho04.tr ho5⟩
    simpa [insS, lastI, fI, needF, hEdef] using h5

theorem built_mk (av ab : Option Addr) (n1 n2 c1 c2 : Nat) : Tryz.prog.built tMk [(1, .agg #[.slice av n1 c1, .slice ab n2 c2])] = some [Value.slice none 0 0, .slice av n1 c1, .slice ab n2 c2].toArray := by kernel_rfl
theorem mkC : MkC := ⟨by
  intro F w x vs body hp hF hvl hsz
  have hp' := hp
  obtain ⟨vv, bv, rfl, hv, hb⟩ := hp'
  obtain ⟨av, capv, rfl⟩ := hv.form
  obtain ⟨ab, capb, rfl⟩ := hb.form
  refine ret_of 28 Tryz.func23 rfl rfl (by simp) ?_
  refine au ?_
  refine pl_op rfl rfl (opTo_boxN [.slice av vs.length capv, .slice ab body.length capb] rfl rfl rfl ?_)
  intro w1 x1 hx1 hs1 hk1 hX1
  refine au ?_
  refine pl_val (.agg #[.slice av vs.length capv, .slice ab body.length capb]) rfl rfl (val_load [.slice av vs.length capv, .slice ab body.length capb] hT rfl rfl rfl (hX1.range (by rfl))) ?_
  refine pl_op rfl rfl (opTo_call (fst := []) (cap := []) rfl rfl rfl rfl (by decide +kernel) ((check_ret (hp.keep hk1 hF.stays) (hF.keep hk1) hsz).mono ?_))
  rintro r w2 ⟨rfl, hk2⟩
  refine au ?_
  by_cases hc : progFault vs body = 0
  · refine nay ?_
    obtain ⟨hS1, hS2, hS3, _⟩ := prog_fit hc
    have hX2 := hk2.blk hX1 (by simp)
    refine au ?_
    refine pl_val (.agg #[.slice av vs.length capv, .slice ab body.length capb]) rfl rfl (val_load [.slice av vs.length capv, .slice ab body.length capb] hT rfl rfl rfl (hX2.range (by rfl))) ?_
    refine pl_val _ rfl rfl (val_build _ rfl rfl (built_mk av ab vs.length body.length capv capb) w2) ?_
    refine pl_op rfl rfl (opTo_boxN [.slice none 0 0, .slice av vs.length capv, .slice ab body.length capb] rfl rfl rfl ?_)
    intro w3 b hb3 hs3 hk3 hbk
    have hk03 := (hk1.tr hk2).tr hk3
    have C : CxK vs body F w (.slice av vs.length capv) (.slice ab body.length capb) := ⟨hp, hF, hS1⟩
    have h3 : Mt w w3 b [] (.slice av vs.length capv) (.slice ab body.length capb) := ⟨_, hk03, by have := (hk1.tr hk2).size; omega, hbk, RowI.nil _ _ _⟩
    refine au ?_
    refine pl_val _ rfl rfl (val_load1 hT rfl rfl rfl ((hk3.blk hX2 (by simp)).cell rfl)) ?_
    refine pl_op rfl rfl (opTo_call (fst := []) (cap := []) rfl rfl rfl rfl (by decide +kernel) ((mstmtsT (L' := insSs vs body 0) C.hF (mstmt_ret C (szSs body + 1)) body (by omega) hS3 0 hb h3 (by simp; omega) rfl rfl).mono ?_))
    rintro r w4 ⟨rfl, h4, ho4⟩
    have hl4 := insSs_len vs body 0
    refine au ?_
    refine pl_val _ rfl rfl (val_build _ rfl rfl (built_mi0 16) w4) ?_
    refine pl_op rfl rfl (opTo_call (fst := []) (cap := []) rfl rfl rfl rfl (by decide +kernel) ((madd_ret h4 haltI (by omega)).mono ?_))
    rintro r w5 ⟨rfl, ⟨mv, h5⟩, ho5⟩
    refine au ?_
    refine pl_val _ rfl rfl (val_load1 hT rfl rfl rfl (h5.bk.cell rfl)) ?_
    refine au ?_
    refine rn_ret Tryz.func23 (.inr (.inr (.inr (.inr ⟨_, _, _, _, rfl, rfl, rfl, rfl⟩)))) ⟨⟨mv, by rw [hc], ?_⟩, h5.kp⟩
    unfold makeOf
    rw [if_pos hc]
    exact h5.row.ins
  · refine ye ?_
    refine au ?_
    refine rn_ret Tryz.func23 (.inr (.inr (.inr (.inr ⟨_, _, _, _, rfl, rfl, rfl, rfl⟩)))) ⟨⟨_, rfl, ?_⟩, hk1.tr hk2⟩
    unfold makeOf
    rw [if_neg hc]
    exact InsV.nil⟩
end E
end Go.Proofs.YtmplkogkphmmjafGreat
