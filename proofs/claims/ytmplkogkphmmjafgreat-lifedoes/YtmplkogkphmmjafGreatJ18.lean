/- Several texts in one: MwF, MwG, LfR, LkA. -/
import Derived.Test.YtmplkogkphmmjafGreatJ17
import Derived.Test.YtmplkogkphmmjafGreatJ02
import Derived.Test.YtmplkogkphmmjafGreatJ09
import Derived.Test.YtmplkogkphmmjafGreatJ08
/- The landed machine: Step, Commits, Tear, Torn, New. -/
namespace Go.Proofs.YtmplkogkphmmjafGreat
set_option maxRecDepth 20000
set_option maxHeartbeats 4000000
namespace E
open Go.Proofs

section
variable {Y : Nat → List Int → Prop} {Z : List Int} {R : Nat → Prop} {B : Nat} {w w' : World} {x : Nat} {fp : List Nat} {M M' : Mx}
theorem Dn.seq {w1 : World} (hm : M.m ∈ fp) (hk : Keep [M.m] w w1) (h : Dn Y Z R B w1 w' x fp M') : Dn Y Z R B w w' x fp M' := by
  obtain ⟨fp', h1, h2, h3⟩ := h
  exact ⟨fp', h1, (hk.mono fun k hk => .inl (by rw [List.mem_singleton.1 hk]; exact hm)).tr h2, fun k hk' => (h3 k hk').imp id fun h => Nat.le_trans hk.size h⟩

theorem mstep_of (h : Vm Y Z R B w x fp M) (hs : M.md.state = 0) {i : Is} (hi : M.L[M.md.next]? = some i) (hL : M.L.length ≤ 1000000) {K : World → Prop}
    (hdo : ∀ w1, Vm Y Z R B w1 x fp (M.at M.md) → Keep [M.m] w w1 → Ret Tryz.prog 87 [.pointer (some ⟨x, 0, none⟩), .agg (iC i).toArray] w1 fun r w' => r = .tuple #[] ∧ K w') :
    Ret Tryz.prog 60 [.pointer (some ⟨x, 0, none⟩)] w fun r w' => r = .bool true ∧ K w' := by
  have hn : M.md.next < M.L.length := (List.getElem?_eq_some_iff.1 hi).1
  have hml := (h.lt _ h.mIn).2.1
  refine ret_of 23 Tryz.func60 rfl rfl (by simp) ?_
  refine au ?_
  refine pl_op rfl rfl (opTo_call (fst := []) (cap := []) rfl rfl rfl rfl (by decide +kernel) ((goes_ret h).mono ?_))
  rintro r w0 ⟨rfl, hww⟩
  rw [hww, hs]
  refine au ?_
  refine pl_op rfl rfl (opTo_call (fst := []) (cap := []) rfl rfl rfl rfl (by decide +kernel) ((mcnext_ret h hi).mono ?_))
  rintro r w1 ⟨rfl, hk1⟩
  refine pl_op rfl rfl (opTo_allocN _ rfl zero_mis ?_)
  intro w2 x2 hx2 hs2 hk2 hb2
  refine pl_op rfl rfl (opTo_storeN (iC i) rfl rfl rfl rfl size_mis hb2 (by simp [iC]) (iC_one _) ?_)
  intro w3 hs3 hk3 hb3
  rw [splice_whole (by rfl)] at hb3
  have hk03 : Keep [] w w3 := (hk1.tr hk2).trB hk3 (by have := hk1.size; omega)
  have hmx : x2 ∉ [M.m] := by
    intro hm
    have hm : x2 = M.o.m := List.mem_singleton.1 hm
    have := hk1.size
    omega
  have h3 := Vx.keep0 h hk03
  refine au ?_
  refine rn_draw (fun w' => w'.cell? ⟨x, 0, none⟩ = some (.pointer (some ⟨M.m, 0, none⟩))) [] hMix ?_
  have hS : Keep [] w3 w3.drew := (Keep.refl _ _).drew
  have h4 := Vx.keep0 h3 hS
  have hb4 := hS.blk hb3 (by simp)
  generalize w3.drew = w4 at *
  refine tk 0 ?_
  refine tk 1 ?_
  refine tk 2 ?_
  refine dr_val 3 (.pointer (some ⟨M.m, 0, none⟩)) rfl (by decide +kernel) rfl rfl (fun w9 hS9 => val_load1 hT rfl rfl rfl hS9) h4.ptr ?_
  refine tk 4 ?_
  refine tk 5 ?_
  refine tk 6 ?_
  refine dr_val 7 (.pointer (some ⟨M.m, 0, none⟩)) rfl (by decide +kernel) rfl rfl (fun w9 hS9 => val_load1 hT rfl rfl rfl hS9) h4.ptr ?_
  refine dr_op 8 rfl (by decide +kernel) rfl rfl (opTo_call (fst := []) (cap := []) rfl rfl rfl rfl (by decide +kernel) ((h4.load 0 (M.md.next : Nat) fun W hl e => loadW_at e.next (by decide)).mono ?_))
  rintro r w4' ⟨rfl, hww⟩
  rw [hww]
  refine ⟨fun _ => h4.ptr, ?_⟩
  refine dr_num 9 (((M.md.next + 1 : Nat) : Int)) rfl (by decide +kernel) rfl rfl rfl rfl rfl (by simp only [ariP]; omega) ?_
  refine dr_op 10 rfl (by decide +kernel) rfl rfl (opTo_call (fst := []) (cap := []) rfl rfl rfl rfl (by decide +kernel) ((h4.put (E' := fun W => Ena Z W { M.md with next := M.md.next + 1 }) 0 ((M.md.next + 1 : Nat) : Int) fun W hl e => by
    rw [show (0 : Int) = ((0 : Nat) : Int) from rfl, putW_at W _ (by decide)]
    exact ena_next e hl _).mono ?_))
  rintro r w5 ⟨rfl, h5, hk5⟩
  refine ⟨fun _ => h5.ptr, ?_⟩
  refine dr_done (by decide +kernel) ?_
  have hb5 := hk5.blk hb4 hmx
  refine au ?_
  refine pl_val (.agg (iC i).toArray) rfl rfl (val_load (iC i) hT rfl rfl rfl (hb5.range (by rfl))) ?_
  refine pl_op rfl rfl (opTo_call (fst := []) (cap := []) rfl rfl rfl rfl (by decide +kernel) ((hdo w5 h5 ((hk03.tr hS).of0.tr hk5)).mono ?_))
  rintro r w6 ⟨rfl, hK⟩
  refine au ?_
  exact rn_ret Tryz.func60 (.inl ⟨_, rfl, rfl⟩) ⟨rfl, hK⟩

theorem mstep_off (h : Vm Y Z R B w x fp M) (hs : M.md.state ≠ 0) : Ret Tryz.prog 60 [.pointer (some ⟨x, 0, none⟩)] w fun r w' => r = .bool false ∧ Keep [] w w' := by
  refine ret_of 23 Tryz.func60 rfl rfl (by simp) ?_
  refine au ?_
  refine pl_op rfl rfl (opTo_call (fst := []) (cap := []) rfl rfl rfl rfl (by decide +kernel) ((goes_ret h).mono ?_))
  rintro r w0 ⟨rfl, hww⟩
  rw [hww, show decide (M.md.state = 0) = false by simp [hs]]
  refine au ?_
  exact rn_ret Tryz.func60 (.inl ⟨_, rfl, rfl⟩) ⟨rfl, Keep.refl _ _⟩

theorem mexI_get (inp : List Int) (A K N : Int) (a : Md) (p : Pr) : exI inp (3, A, K, N) a p = (if 0 ≤ topS a.stack ∧ topS a.stack < K then { a with next := a.next + 1, stack := a.stack.dropLast ++ [cellAt a.cells (A + topS a.stack)] } else { a with next := a.next + 1, stack := a.stack.dropLast, state := 13 }, p) := by
  have e : exI inp (3, A, K, N) a p = (if 0 ≤ topS a.stack ∧ topS a.stack < K then ({ a with next := a.next + 1, stack := a.stack.dropLast ++ [cellAt a.cells (A + topS a.stack)] }, p) else ({ a with next := a.next + 1, stack := a.stack.dropLast, state := 13 }, p)) := rfl
  rw [e]
  split <;> rfl
theorem mexI_put (inp : List Int) (A K N : Int) (a : Md) (p : Pr) : exI inp (10, A, K, N) a p = (if 0 ≤ topS a.stack.dropLast ∧ topS a.stack.dropLast < K then { a with next := a.next + 1, stack := a.stack.dropLast.dropLast, cells := a.cells.set (A + topS a.stack.dropLast).toNat (topS a.stack) } else { a with next := a.next + 1, stack := a.stack.dropLast.dropLast, state := 13 }, p) := by
  have e : exI inp (10, A, K, N) a p = (if 0 ≤ topS a.stack.dropLast ∧ topS a.stack.dropLast < K then ({ a with next := a.next + 1, stack := a.stack.dropLast.dropLast, cells := a.cells.set (A + topS a.stack.dropLast).toNat (topS a.stack) }, p) else ({ a with next := a.next + 1, stack := a.stack.dropLast.dropLast, state := 13 }, p)) := rfl
  rw [e]
  split <;> rfl
theorem mexI_read (inp : List Int) (A K N : Int) (a : Md) (p : Pr) : exI inp (12, A, K, N) a p = (if a.read < inp.length then { a with next := a.next + 1, cells := a.cells.set A.toNat (inp.getD a.read 0), read := a.read + 1 } else { a with next := a.next + 1, state := 14 }, p) := by
  have e : exI inp (12, A, K, N) a p = (if a.read < inp.length then ({ a with next := a.next + 1, cells := a.cells.set A.toNat (inp.getD a.read 0), read := a.read + 1 }, p) else ({ a with next := a.next + 1, state := 14 }, p)) := rfl
  rw [e]
  split <;> rfl

theorem Vx.y {O : Mo} {E : List Int → Prop} {Y' : Nat → List Int → Prop} (h : Vx Y R B w x fp O E) (hy : ∀ d S, Y d S → Y' d S) : Vx Y' R B w x fp O E := by
  obtain ⟨d, s, S, W, D, wv, cv, iv, pv, rfl, h, e, y⟩ := h
  exact ⟨d, s, S, W, D, wv, cv, iv, pv, rfl, h, e, hy d S y⟩
theorem mstep_ret {c i : Nat} {Q : List Is} {Y' : Nat → List Int → Prop} (h : Vm Y Z R B w x fp M) (ho : Wo c Q M i) (hi : i ≤ 400000) (hs : M.md.state = 0) (hl : comB M.L M.md = true → M.left = 0 ∧ M.torn = false)
    (hYc : comB M.L M.md = true → ∀ d S S2 W, Y d S → Ena Z W (M.at M.md).md → W.length = 112 → allS S2 = W → Y' d S2) (hYn : comB M.L M.md = false → ∀ d S, Y d S → Y' d S) :
    Ret Tryz.prog 60 [.pointer (some ⟨x, 0, none⟩)] w fun r w' => r = .bool true ∧ ∃ fp', Vp Y' Z R B w' x fp' (M.go (if comB M.L M.md then M.gen + 1 else M.gen)) ∧ Keep fp w w' ∧ ∀ k ∈ fp', k ∈ fp ∨ w.heap.size ≤ k := by
  have hn := ho.fit.next hs
  have hsim := ho.fit.sim hs
  have hst := hsim.le (by decide)
  have hcc := ho.fit.cells
  have hc48 := ho.c48
  have hc : M.md.cells.length ≤ 48 := by omega
  have hlen := ho.prg.len
  have hou := ho.fit.out
  have hol := ho.out
  have hrd := ho.read
  have hg0 := ho.gen0
  have hgn := ho.gen
  have hL : M.L.length ≤ 1000000 := by rw [ho.code]; simp; omega
  obtain ⟨y, hy, hfx⟩ := at_halt ho.prg.sim hn hsim
  rw [← ho.code] at hy
  have hgd : M.L.getD M.md.next (0, 0, 0, 0) = y := by rw [List.getD_eq_getElem?_getD, hy]; rfl
  have hgo : ∀ g, M.go g = { M with md := (exI M.inp y M.md M.pr).1, pr := (exI M.inp y M.md M.pr).2, gen := g } := fun g => by
    unfold Mx.go stB
    rw [if_pos hs, hgd]
  have hcb : comB M.L M.md = decide (y.1 = 15) := by
    unfold comB
    rw [hgd, hs]
    simp
  have fin : ∀ {w1 w' : World} {r : Value}, Keep [M.m] w w1 → Dn Y' Z R B w1 w' x fp (M.go (if comB M.L M.md then M.gen + 1 else M.gen)) → ∃ fp', Vp Y' Z R B w' x fp' (M.go (if comB M.L M.md then M.gen + 1 else M.gen)) ∧ Keep fp w w' ∧ ∀ k ∈ fp', k ∈ fp ∨ w.heap.size ≤ k := fun {w1 w' r} hk hd => Dn.seq h.mIn hk hd
  have same : ∀ {w1 w' : World} {r : Value}, comB M.L M.md = false → Keep [M.m] w w1 → r = .tuple #[] ∧ Dn Y Z R B w1 w' x fp (M.go M.gen) → r = .tuple #[] ∧ ∃ fp', Vp Y' Z R B w' x fp' (M.go (if comB M.L M.md then M.gen + 1 else M.gen)) ∧ Keep fp w w' ∧ ∀ k ∈ fp', k ∈ fp ∨ w.heap.size ≤ k := fun {w1 w' r} hc0 hk hd => ⟨hd.1, fin (r := r) hk (by
    rw [hc0, if_neg (by decide)]
    obtain ⟨fp', h2, h3⟩ := hd.2
    exact ⟨fp', Vx.y h2 (hYn hc0), h3⟩)⟩
  refine mstep_of h hs hy hL fun w1 h1 hk1 => ?_
  rcases hfx with ⟨hlt, hxQ, hok, _⟩ | ⟨hlt, rfl, hk0⟩
  · have hops := ho.prg.ops y (List.mem_of_getElem? hxQ)
    have hjm := ho.prg.jmp y (List.mem_of_getElem? hxQ)
    obtain ⟨op, A, K, N⟩ := y
    obtain ⟨f1, f2, f3, f4, f5, f6⟩ := hok
    simp only at f1 f2 f3 f4 f5 f6 hops
    obtain ⟨n1, n2, n3, n4, n5, n6⟩ := popI_num op
    have hA : op = 13 ∨ op = 14 → 0 ≤ A := fun hj => by
      obtain ⟨kk, h1, _⟩ := hjm hj
      simp only at h1
      omega
    clear hjm
    have hcase : op = 1 ∨ op = 2 ∨ op = 3 ∨ op = 4 ∨ op = 5 ∨ op = 6 ∨ op = 7 ∨ op = 8 ∨ op = 9 ∨ op = 10 ∨ op = 11 ∨ op = 12 ∨ op = 13 ∨ op = 14 ∨ op = 15 := by omega
    rcases hcase with rfl | rfl | rfl | rfl | rfl | rfl | rfl | rfl | rfl | rfl | rfl | rfl | rfl | rfl | rfl
    · refine (mdo_num h1 hst hc).mono fun r w' hd => same (hcb.trans (by rfl)) hk1 ?_
      rw [hgo]; exact hd
    · obtain ⟨g1, g2⟩ := f5 (.inl rfl)
      refine (mdo_var h1 hst hc g1 (by omega)).mono fun r w' hd => same (hcb.trans (by rfl)) hk1 ?_
      rw [hgo]; exact hd
    · obtain ⟨g1, g2, g3⟩ := f6 (.inl rfl)
      have := n2 rfl
      refine (mdo_get h1 (by omega) hst hc g1 (by omega)).mono fun r w' hd => same (hcb.trans (by rfl)) hk1 ?_
      rw [hgo, mexI_get]; exact hd
    · have := n3 (by omega)
      refine (mdo_add h1 (by omega) hst hc).mono fun r w' hd => same (hcb.trans (by rfl)) hk1 ?_
      rw [hgo]; exact hd
    · have := n3 (by omega)
      refine (mdo_sub h1 (by omega) hst hc).mono fun r w' hd => same (hcb.trans (by rfl)) hk1 ?_
      rw [hgo]; exact hd
    · have := n3 (by omega)
      refine (mdo_mul h1 (by omega) hst hc).mono fun r w' hd => same (hcb.trans (by rfl)) hk1 ?_
      rw [hgo]; exact hd
    · have := n3 (by omega)
      refine (mdo_less h1 (by omega) hst hc).mono fun r w' hd => same (hcb.trans (by rfl)) hk1 ?_
      rw [hgo]; exact hd
    · have := n3 (by omega)
      refine (mdo_same h1 (by omega) hst hc).mono fun r w' hd => same (hcb.trans (by rfl)) hk1 ?_
      rw [hgo]; exact hd
    · obtain ⟨g1, g2⟩ := f5 (.inr (.inl rfl))
      have := n4 (by omega)
      refine (mdo_set h1 (by omega) hst hc g1 (by omega)).mono fun r w' hd => same (hcb.trans (by rfl)) hk1 ?_
      rw [hgo]; exact hd
    · obtain ⟨g1, g2, g3⟩ := f6 (.inr rfl)
      have := n5 rfl
      refine (mdo_put h1 (by omega) hst hc g1 (by omega)).mono fun r w' hd => same (hcb.trans (by rfl)) hk1 ?_
      rw [hgo, mexI_put]; exact hd
    · have := n4 (by omega)
      refine (mdo_print h1 (by omega) hst (by omega) (by omega)).mono fun r w' hd => same (hcb.trans (by rfl)) hk1 ?_
      rw [hgo]; exact hd
    · obtain ⟨g1, g2⟩ := f5 (.inr (.inr rfl))
      refine (mdo_read h1 (by omega) hc g1 (by omega)).mono fun r w' hd => same (hcb.trans (by rfl)) hk1 ?_
      rw [hgo, mexI_read]; exact hd
    · have := n4 (by omega)
      refine (mdo_else h1 (by omega) hst (hA (.inl rfl))).mono fun r w' hd => same (hcb.trans (by rfl)) hk1 ?_
      rw [hgo]; exact hd
    · refine (mdo_jump h1 (hA (.inr rfl))).mono fun r w' hd => same (hcb.trans (by rfl)) hk1 ?_
      rw [hgo]; exact hd
    · have hcm : comB M.L M.md = true := hcb.trans (by rfl)
      obtain ⟨l0, l1⟩ := hl hcm
      refine (mdo_commit h1 (hYc hcm) l0 l1 (by omega)).mono fun r w' hd => ⟨hd.1, fin (r := r) hk1 ?_⟩
      rw [hcm, if_pos rfl, hgo]; exact hd.2
  · refine (mdo_halt (A := 0) (K := 0) (N := 0) h1).mono fun r w' hd => same (hcb.trans (by rfl)) hk1 ?_
    rw [hgo]; exact hd

theorem mtears_ret {c i : Nat} {Q : List Is} (h : Vm Y Z R B w x fp M) (ho : Wo c Q M i) (hi : i ≤ 400000) (hcm : comB M.L M.md = true) (hl0 : 0 < M.left) (hl1 : M.left < 9223372036854775808) :
    Ret Tryz.prog 60 [.pointer (some ⟨x, 0, none⟩)] w fun r w' => r = .bool true ∧ TnD Y (fun W => Ena Z W (M.at M.md).md) R B w w' fp M.o ∧ Keep fp w w' := by
  unfold comB at hcm
  simp only [Bool.and_eq_true, decide_eq_true_eq] at hcm
  obtain ⟨hs, h15⟩ := hcm
  have hn := ho.fit.next hs
  have hlen := ho.prg.len
  have hgn := ho.gen
  have hL : M.L.length ≤ 1000000 := by rw [ho.code]; simp; omega
  have hnl : M.md.next < M.L.length := by rw [ho.code]; simp; omega
  obtain ⟨y, hye⟩ : ∃ y, y = M.L[M.md.next] := ⟨_, rfl⟩
  have hy : M.L[M.md.next]? = some y := by rw [List.getElem?_eq_getElem hnl, hye]
  have hgd : M.L.getD M.md.next (0, 0, 0, 0) = y := by rw [List.getD_eq_getElem?_getD, hy]; rfl
  rw [hgd] at h15
  obtain ⟨op, A, K, N⟩ := y
  simp only at h15
  subst h15
  refine mstep_of h hs hy hL fun w1 h1 hk1 => ?_
  refine (mdo_tear h1 hl0 hl1 (by omega)).mono ?_
  rintro r w' ⟨rfl, ⟨d, S, W, D, wv, pv, t1, t2, t3, t4, t5, t6, t7, t8, t9, t10⟩, hk2⟩
  exact ⟨rfl, ⟨d, S, W, D, wv, pv, t1, t2, t3, t4, t5, t6, t7, t8, fun k hk => (t9 k hk).imp id fun h => Nat.le_trans hk1.size h, t10⟩, (hk1.mono fun k hk => .inl (by rw [List.mem_singleton.1 hk]; exact h.mIn)).tr hk2⟩
theorem size_it : sizeOk Tryz.prog 3 1 = true := by kernel_rfl
theorem mtear_ret (h : Vm Y Z R B w x fp M) (n : Int) : Ret Tryz.prog 62 [.pointer (some ⟨x, 0, none⟩), .int .i64 n] w fun r w' => r = .tuple #[] ∧ Vm Y Z R B w' x fp { M with left := n } ∧ Keep fp w w' := by
  obtain ⟨cv, iv, hbk, _, _, _⟩ := h.bk
  refine ret_of 8 Tryz.func62 rfl rfl (by simp) ?_
  refine au ?_
  refine pl_op rfl rfl (opTo_storeN [.int .i64 n] rfl rfl rfl rfl size_it hbk (by simp [maC]) (one_v rfl) ?_)
  intro w1 hs1 hk1 hb1
  have h2 := Vx.own (left := n) (torn := M.torn) h hk1 fun {cv' iv'} hbk' => by
    have e := Blk.inj hbk hbk'
    simp only [maC, List.cons.injEq] at e
    rw [← e.2.1, ← e.2.2.1]
    exact hb1
  refine au ?_
  exact rn_end Tryz.func62 (.inr (.inl ⟨rfl, rfl⟩)) ⟨rfl, h2, hk1.mono fun k hk => .inl (by rw [List.mem_singleton.1 hk]; exact h.in)⟩
theorem mcommits_ret {c i : Nat} {Q : List Is} (h : Vm Y Z R B w x fp M) (ho : Wo c Q M i) : Ret Tryz.prog 61 [.pointer (some ⟨x, 0, none⟩)] w fun r w' => r = .bool (comB M.L M.md) ∧ Keep [] w w' := by
  refine ret_of 11 Tryz.func61 rfl rfl (by simp) ?_
  unfold comB
  refine au ?_
  refine pl_op rfl rfl (opTo_call (fst := []) (cap := []) rfl rfl rfl rfl (by decide +kernel) ((goes_ret h).mono ?_))
  rintro r w0 ⟨rfl, hww⟩
  rw [hww]
  by_cases hs : M.md.state = 0
  · have hn := ho.fit.next hs
    have hnl : M.md.next < M.L.length := by rw [ho.code]; simp; omega
    obtain ⟨y, hye⟩ : ∃ y, y = M.L[M.md.next] := ⟨_, rfl⟩
    have hy : M.L[M.md.next]? = some y := by rw [List.getElem?_eq_getElem hnl, hye]
    have hgd : M.L.getD M.md.next (0, 0, 0, 0) = y := by rw [List.getD_eq_getElem?_getD, hy]; rfl
    rw [hgd, show decide (M.md.state = 0) = true by simp [hs]]
    refine au ?_
    refine pl_op rfl rfl (opTo_call (fst := []) (cap := []) rfl rfl rfl rfl (by decide +kernel) ((mcnext_ret h hy).mono ?_))
    rintro r w1 ⟨rfl, hk1⟩
    refine pl_val (.int .i64 y.1) rfl rfl (val_field1 0 (iC y) rfl rfl (by decide +kernel) rfl w1) ?_
    by_cases h15 : y.1 = 15
    · refine ye ?_
      refine au ?_
      exact rn_ret Tryz.func61 (.inl ⟨_, rfl, rfl⟩) ⟨by simp [h15], hk1⟩
    · refine nay ?_
      refine au ?_
      exact rn_ret Tryz.func61 (.inl ⟨_, rfl, rfl⟩) ⟨by simp [h15], hk1⟩
  · rw [show decide (M.md.state = 0) = false by simp [hs]]
    refine au ?_
    exact rn_ret Tryz.func61 (.inl ⟨_, rfl, rfl⟩) ⟨by simp, Keep.refl _ _⟩

theorem built_ma (m q : Nat) (ca ia : Option Addr) (cn cc i1 ic : Nat) : Tryz.prog.built tMa [(0, .pointer (some ⟨m, 0, none⟩)), (1, .slice ca cn cc), (2, .slice ia i1 ic), (3, .pointer (some ⟨q, 0, none⟩))] = some (maC m (.slice ca cn cc) (.slice ia i1 ic) q 0 false).toArray := by kernel_rfl
theorem mnew_m {d s m q : Nat} {S W : List Int} {D : List Bool} {wv cv iv : Value} {fq : List Nat} {p : Pr} {md : Md} {L : List Is} {inp : List Int} (hst : St B w d s m S W D wv) (hs : B ≤ s) (hnr : ∀ k ∈ fpM d s m wv, ¬ R k) (he : Ena Z W md) (hY : Y d S) (hp : PVm R B w q fq p) (hc : InsV R w cv L) (hi : LsR R w iv inp) (hro : ∀ k, R k → k < w.heap.size) (hil : inp.length ≤ 1000000) :
    Ret Tryz.prog 49 [.pointer (some ⟨m, 0, none⟩), cv, iv, .pointer (some ⟨q, 0, none⟩)] w fun r w' => ∃ x fp, r = .pointer (some ⟨x, 0, none⟩) ∧ Vm Y Z R B w' x fp ⟨L, inp, m, q, md, p, 0, false, genS S⟩ ∧ Keep [] w w' ∧ ∀ k ∈ fp, k ∈ fpM d s m wv ∨ k ∈ fq ∨ w.heap.size ≤ k := by
  obtain ⟨ia, icap, rfl, hi2⟩ := hi
  obtain ⟨ca, ccap, hcv⟩ := hc.form
  subst hcv
  obtain ⟨pv, rfl, hp⟩ := hp
  have hlies : LsV w (.slice ia inp.length icap) inp := ⟨ia, icap, rfl, fun h0 => by
    obtain ⟨b, q, e, hR, hr⟩ := hi2 h0
    exact ⟨b, q, e, hro b hR, hr⟩⟩
  have hBw : B ≤ w.heap.size := Nat.le_trans hst.hm (Nat.le_of_lt hst.mem.blk.lt)
  refine ret_of 20 Tryz.func49 rfl rfl (by simp) ?_
  refine au ?_
  refine pl_val (.bool false) rfl rfl (val_eqNil (by decide +kernel) rfl rfl w) ?_
  refine au ?_
  refine pl_op rfl rfl (opTo_call (fst := []) (cap := []) rfl rfl rfl rfl (by decide +kernel) ((cloneL_ret hlies hil).mono ?_))
  rintro r w1 ⟨hr, hk1⟩
  obtain ⟨ra, rcap, rfl⟩ := hr.form
  refine au ?_
  refine pl_val _ rfl rfl (val_build _ rfl rfl (built_ma m q ca ra L.length ccap inp.length rcap) w1) ?_
  refine pl_op rfl rfl (opTo_boxN (maC m (.slice ca L.length ccap) (.slice ra inp.length rcap) q 0 false) rfl rfl rfl ?_)
  intro w2 x hx hs2 hk2 hb2
  have hk := hk1.tr hk2
  refine au ?_
  have hrl : ∀ k ∈ obs (.slice ra inp.length rcap), w.heap.size ≤ k := fun k hk => (hr.lt k hk).1
  refine rn_ret Tryz.func49 (.inl ⟨_, rfl, rfl⟩) ⟨x, _, rfl, ⟨d, s, S, W, D, wv, .slice ca L.length ccap, .slice ra inp.length rcap, pv, rfl, ⟨hst.keep0 hk, hs, rfl, hp.keep0 hk, hb2, hc.keep hk fun c hR => ⟨hro c hR, by simp⟩, (hr.low hBw).keep hk2 (fun _ _ => by simp), by have := hk1.size; omega, ?_, ?_⟩, he, hY⟩, hk, ?_⟩
  · intro k hk hm
    have := (hp.lt k (by simp [hk])).2.1
    have := hrl k hm
    omega
  · intro k hk hR
    have hlt := hro k hR
    have := hk1.size
    rcases mem_fpV.1 hk with h1 | h1 | h1 | h1 | h1 | h1
    · omega
    · exact hnr k (by simp only [fpM, List.mem_cons]; exact .inl h1) hR
    · exact hnr k (by simp only [fpM, List.mem_cons]; exact .inr (.inl h1)) hR
    · exact hnr k (by simp only [fpM, List.mem_cons]; exact .inr (.inr h1)) hR
    · exact hp.nr k h1 hR
    · have := hrl k h1
      omega
  · intro k hk
    have := hk1.size
    rcases mem_fpV.1 hk with h1 | h1 | h1 | h1 | h1 | h1
    · exact .inr (.inr (by omega))
    · exact .inl (by simp only [fpM, List.mem_cons]; exact .inl h1)
    · exact .inl (by simp only [fpM, List.mem_cons]; exact .inr (.inl h1))
    · exact .inl (by simp only [fpM, List.mem_cons]; exact .inr (.inr h1))
    · exact .inr (.inl h1)
    · exact .inr (.inr (hrl k h1))
end
end E
end Go.Proofs.YtmplkogkphmmjafGreat

/- The landed machine: result, Result; all that is to be shown of package machine. -/
namespace Go.Proofs.YtmplkogkphmmjafGreat
set_option maxRecDepth 20000
set_option maxHeartbeats 4000000
namespace E
open Go.Proofs

abbrev tRs : Nat := 35
theorem built_rs (c : Int) (a : Option Addr) (n k : Nat) : Tryz.prog.built tRs [(0, .int .i64 c), (1, .slice a n k)] = some (resC c (.slice a n k) (.slice none 0 0)).toArray := by kernel_rfl
theorem pbuilt0 : Tryz.prog.built tPr [] = some pz0.toArray := by kernel_rfl
section
variable {Y : Nat → List Int → Prop} {Z : List Int} {R : Nat → Prop} {B : Nat} {w w' : World} {x : Nat} {fp : List Nat} {M : Mx}

theorem Vx.prn {O : Mo} {E : List Int → Prop} (h : Vx Y R B w x fp O E) : ∃ fq, PVm R B w O.q fq O.pr := by
  obtain ⟨d, s, S, W, D, wv, cv, iv, pv, rfl, h, _⟩ := h
  exact ⟨_, pv, rfl, h.pr⟩
theorem mresult0_ret (h : Vm Y Z R B w x fp M) (hp : M.pr.2 = false) (hst : M.md.state ≤ 1000) : Ret Tryz.prog 67 [.pointer (some ⟨x, 0, none⟩)] w fun r w' => r = .int .i64 (codeB M.md M.pr) ∧ Keep [] w w' := by
  have hp' : M.o.pr.2 = false := hp
  refine ret_of 21 Tryz.func67 rfl rfl (by simp) ?_
  unfold codeB
  rw [if_neg (by rw [hp]; decide)]
  refine au ?_
  refine pl_val _ rfl rfl (val_load1 hT rfl rfl rfl (h.ptr)) ?_
  refine pl_op rfl rfl (opTo_call (fst := []) (cap := []) rfl rfl rfl rfl (by decide +kernel) ((h.load 4 (M.md.state : Nat) fun W hl e => loadW_at e.state (by decide)).mono ?_))
  rintro r w0 ⟨rfl, hww⟩
  rw [hww]
  refine au ?_
  by_cases h0 : M.md.state = 0
  · rw [if_pos h0]
    refine ye ?_
    refine au ?_
    exact rn_ret Tryz.func67 (.inl ⟨_, rfl, rfl⟩) ⟨rfl, Keep.refl _ _⟩
  · rw [if_neg h0]
    refine nay ?_
    refine au ?_
    by_cases h1 : M.md.state = 1
    · rw [if_neg (by omega)]
      refine ye ?_
      refine au ?_
      refine pl_val _ rfl rfl (val_load1 hT rfl rfl rfl (h.prt)) ?_
      obtain ⟨fq, hP⟩ := h.prn
      refine pl_op rfl rfl (opTo_call (fst := []) (cap := []) rfl rfl rfl rfl (by decide +kernel) ((pcode_ret hP).mono ?_))
      rintro r w1 ⟨rfl, hww⟩
      rw [hww, hp']
      refine au ?_
      exact rn_ret Tryz.func67 (.inl ⟨_, rfl, rfl⟩) ⟨rfl, Keep.refl _ _⟩
    · rw [if_pos (by omega)]
      refine nay ?_
      refine au ?_
      refine pl_num (((M.md.state : Int) + -2)) rfl rfl rfl rfl rfl (by simp only [ariP]; omega) ?_
      refine au ?_
      exact rn_ret Tryz.func67 (.inl ⟨_, rfl, rfl⟩) ⟨by rw [Int.sub_eq_add_neg], Keep.refl _ _⟩

theorem mresult_ret {n : Nat} (h : Vm Y Z R B w x fp M) (hp : M.pr.2 = false) (hst : M.md.state ≤ 1000) (hpl : M.pr.1.length ≤ 400000) (hc : M.md.cells.length ≤ 48) (hn : n ≤ M.md.cells.length) :
    Ret Tryz.prog 41 [.pointer (some ⟨x, 0, none⟩), .int .i64 (n : Nat)] w fun r w' => (∃ ov cv, r = .agg (resC (codeB M.md M.pr) ov cv).toArray ∧ RowL w' w.heap.size ov M.pr.1 ∧ RowL w' w.heap.size cv (M.md.cells.take n)) ∧ Keep [] w w' := by
  obtain ⟨cd, hcd⟩ : ∃ cd, cd = codeB M.md M.pr := ⟨_, rfl⟩
  rw [← hcd]
  refine ret_of 30 Tryz.func41 rfl rfl (by simp) ?_
  refine auj ?_
  refine rn_seq ?_
  refine rn_plain ?_
  refine pl_op rfl rfl (opTo_allocN _ rfl zero_re ?_)
  intro w1 x4 hx4 hs1 hk1 hb1
  refine auj ?_
  refine rn_seq ?_
  have h1 := Vx.keep0 h hk1
  refine rn_with (fun σ' w' => ∃ g ov, Blk w' g (resC cd ov (.slice none 0 0)) tRs ∧ w1.heap.size ≤ g ∧ RowL w' w1.heap.size ov M.pr.1 ∧ Keep [] w1 w' ∧ Sub [(0, .pointer (some ⟨x, 0, none⟩)), (1, .int .i64 (n : Nat)), (4, .pointer (some ⟨x4, 0, none⟩)), (5, .pointer (some ⟨g, 0, none⟩))] σ') ?_ ?_
  rotate_left
  · intro fin1
    refine rn_draw (fun w' => Keep [] w1 w') [9] hMix ?_
    have hS : Keep [] w1 w1.drew := (Keep.refl _ _).drew
    generalize w1.drew = w2 at *
    refine dr_with 1 511 (fun σ' w' => ∃ g ov, Blk w' g (resC 0 (.slice none 0 0) (.slice none 0 0)) tRs ∧ w1.heap.size ≤ g ∧ (∃ a k, ov = .slice a M.pr.1.length k) ∧ RowL w' w1.heap.size ov M.pr.1 ∧ Keep [] w1 w' ∧ Sub [(0, .pointer (some ⟨x, 0, none⟩)), (1, .int .i64 (n : Nat)), (4, .pointer (some ⟨x4, 0, none⟩)), (5, .pointer (some ⟨g, 0, none⟩)), (14, .agg (resC cd ov (.slice none 0 0)).toArray)] σ') ?_ ?_
    · rintro σ' w3 ⟨g, ov, hg, hgw, ⟨oa, ok, rfl⟩, hov, hS3, hsub⟩
      refine dr_sub hsub ?_
      refine dr_op 9 rfl (by decide +kernel) rfl rfl (opTo_storeN (resC cd (.slice oa M.pr.1.length ok) (.slice none 0 0)) rfl rfl rfl rfl size_re hg (by simp [resC]) (resC_one _ _ _ _ _ _ _) ?_)
      intro w4 hs4 hk4 hb4
      rw [splice_whole (by rfl)] at hb4
      refine ⟨fun h => absurd (by simp) h, ?_⟩
      refine dr_done (by decide +kernel) ?_
      exact fin1 _ _ ⟨g, _, hb4, hgw, hov.keep hk4 (hov.ne hg (by decide)), hS3.trB hk4 hgw, rfl, rfl, rfl, rfl, trivial⟩
    intro fin2
    refine tk 0 ?_
    refine tk 2 ?_
    refine tk 3 ?_
    refine tk 4 ?_
    obtain ⟨cv, iv, hbk, _, _, _⟩ := h1.bk
    refine dr_val 5 (.pointer (some ⟨M.q, 0, none⟩)) rfl (by decide +kernel) rfl rfl (fun w9 hS9 => val_load1 hT rfl rfl rfl ((hS9.blk hbk (by simp)).cell rfl)) hS ?_
    have res : ∀ {w3 : World}, Keep [] w1 w3 → Ret Tryz.prog 67 [.pointer (some ⟨x, 0, none⟩)] w3 fun r w' => r = .int .i64 cd ∧ Keep [] w3 w' := fun {w3} hk => by
      rw [hcd]
      exact mresult0_ret (Vx.keep0 h1 hk) hp hst
    have lst : ∀ {w3 : World}, Keep [] w1 w3 → Ret Tryz.prog 68 [.pointer (some ⟨M.q, 0, none⟩)] w3 fun r w' => RowL w' w1.heap.size r M.pr.1 ∧ Keep [] w3 w' := fun {w3} hk => by
      obtain ⟨fq, hP⟩ := (Vx.keep0 h1 hk).prn
      refine (plist_ret hP hpl).mono ?_
      rintro r w' ⟨hr, hk'⟩
      exact ⟨hr.low hk.size, hk'⟩
    refine dr_op2 1 8 rfl rfl (by decide +kernel) rfl rfl rfl rfl ?_ ?_
    · refine opTo_call (fst := []) (cap := []) rfl rfl rfl rfl (by decide +kernel) ((res hS).mono ?_)
      rintro r w3 ⟨rfl, hk3⟩
      have hS3 := hS.tr hk3
      refine ⟨fun _ => hS3, ?_⟩
      refine dr_op2 6 8 rfl rfl (by decide +kernel) rfl rfl rfl rfl ?_ ?_
      · refine opTo_call (fst := []) (cap := []) rfl rfl rfl rfl (by decide +kernel) ((lst hS3).mono ?_)
        rintro r w4 ⟨hr, hk4⟩
        have hS4 := hS3.tr hk4
        obtain ⟨oa, ok, rfl⟩ := hr.form
        refine ⟨fun _ => hS4, ?_⟩
        refine dr_any 7 _ rfl (by decide +kernel) rfl rfl (fun w => val_build _ rfl rfl (built_rs cd oa M.pr.1.length ok) w) ?_
        refine dr_op 8 rfl (by decide +kernel) rfl rfl (opTo_allocN _ rfl zero_re ?_)
        intro w5 g hg hs5 hk5 hb5
        refine ⟨fun _ => hS4.tr hk5, ?_⟩
        exact fin2 _ _ ⟨g, _, hb5, by have := hS4.size; omega, ⟨_, _, rfl⟩, hr.keep hk5 (fun _ _ => by simp), hS4.tr hk5, rfl, rfl, rfl, rfl, rfl, trivial⟩
      · refine opTo_allocN _ rfl zero_re ?_
        intro w4 g hg hs4 hk4 hb4
        have hS4 := hS3.tr hk4
        refine ⟨fun _ => hS4, ?_⟩
        refine dr_op 6 rfl (by decide +kernel) rfl rfl (opTo_call (fst := []) (cap := []) rfl rfl rfl rfl (by decide +kernel) ((lst hS4).mono ?_))
        rintro r w5 ⟨hr, hk5⟩
        obtain ⟨oa, ok, rfl⟩ := hr.form
        refine ⟨fun _ => hS4.tr hk5, ?_⟩
        refine dr_any 7 _ rfl (by decide +kernel) rfl rfl (fun w => val_build _ rfl rfl (built_rs cd oa M.pr.1.length ok) w) ?_
        exact fin2 _ _ ⟨g, _, hk5.blk hb4 (by simp), by have := hS3.size; omega, ⟨_, _, rfl⟩, hr, hS4.tr hk5, rfl, rfl, rfl, rfl, rfl, trivial⟩
    · refine opTo_allocN _ rfl zero_re ?_
      intro w3 g hg hs3 hk3 hb3
      have hS3 := hS.tr hk3
      refine ⟨fun _ => hS3, ?_⟩
      refine dr_op 1 rfl (by decide +kernel) rfl rfl (opTo_call (fst := []) (cap := []) rfl rfl rfl rfl (by decide +kernel) ((res hS3).mono ?_))
      rintro r w4 ⟨rfl, hk4⟩
      have hS4 := hS3.tr hk4
      refine ⟨fun _ => hS4, ?_⟩
      refine dr_op 6 rfl (by decide +kernel) rfl rfl (opTo_call (fst := []) (cap := []) rfl rfl rfl rfl (by decide +kernel) ((lst hS4).mono ?_))
      rintro r w5 ⟨hr, hk5⟩
      obtain ⟨oa, ok, rfl⟩ := hr.form
      refine ⟨fun _ => hS4.tr hk5, ?_⟩
      refine dr_any 7 _ rfl (by decide +kernel) rfl rfl (fun w => val_build _ rfl rfl (built_rs cd oa M.pr.1.length ok) w) ?_
      exact fin2 _ _ ⟨g, _, hk5.blk (hk4.blk hb3 (by simp)) (by simp), by have := hS.size; omega, ⟨_, _, rfl⟩, hr, hS4.tr hk5, rfl, rfl, rfl, rfl, rfl, trivial⟩
  rintro σ w2 ⟨g, ov, hg, hgw, hov, hk2, hsub⟩
  refine rn_sub hsub ?_
  clear hsub
  refine au ?_
  refine pl_val (.int .i64 (n : Nat)) rfl rfl (mval_min _ rfl rfl rfl (by rw [if_neg (by omega)]) _) ?_
  refine au ?_
  refine rn_ind (fun t σ w' => ∃ (j : Nat) (c2 : Value), j ≤ n ∧ t = n - j ∧ σ = [(0, .pointer (some ⟨x, 0, none⟩)), (4, .pointer (some ⟨x4, 0, none⟩)), (5, .pointer (some ⟨g, 0, none⟩)), (16, .int .i64 (n : Nat)), (17, .int .i64 (j : Nat))] ∧ Keep [] w1 w' ∧ Blk w' g (resC cd ov c2) tRs ∧ RowL w' w1.heap.size ov M.pr.1 ∧ RowL w' w1.heap.size c2 (M.md.cells.take j) ∧ Apt ov c2)
    n _ ?_ ⟨0, .slice none 0 0, Nat.zero_le _, rfl, rfl, hk2, hg, hov, RowL.nil _ _, fun k _ hm => by simp [obs, Value.ownBlock] at hm⟩ ?_
  · exact ⟨rfl, rfl, rfl, rfl, rfl, trivial⟩
  clear hg hov hk2
  rintro t σ w3 ih ⟨j, c2, hj, rfl, rfl, hk3, hg, hov, hc2, hap⟩
  have hjl : (M.md.cells.take j).length = j := by rw [List.length_take]; omega
  obtain ⟨c2a, c2k, hc2v⟩ := hc2.form
  rw [hjl] at hc2v
  subst hc2v
  refine au ?_
  by_cases hlt : j < n
  · refine ye ?_
    refine au ?_
    refine rn_draw (fun w' => Keep [] w3 w') [6, 8] hMix ?_
    have hS : Keep [] w3 w3.drew := (Keep.refl _ _).drew
    generalize w3.drew = w4 at *
    have hja : j < M.md.cells.length := by omega
    refine tk 0 ?_
    refine dr_val 1 (.slice c2a j c2k) rfl (by decide +kernel) rfl rfl (fun w9 hS9 => val_load1 hT rfl rfl rfl ((hS9.blk hg (by simp)).cell rfl)) hS ?_
    refine tk 2 ?_
    refine tk 3 ?_
    refine dr_op 4 rfl (by decide +kernel) rfl rfl (opTo_call (fst := []) (cap := []) rfl rfl rfl rfl (by decide +kernel) ((mcell_at (Vx.keep0 h1 (hk3.tr hS)) hc hja).mono ?_))
    rintro r w4' ⟨rfl, hww⟩
    rw [hww]
    refine ⟨fun _ => hS, ?_⟩
    obtain ⟨v, hv⟩ : ∃ v, v = cellAt M.md.cells ((j : Nat) : Int) := ⟨_, rfl⟩
    rw [← hv]
    refine dr_op 5 rfl (by decide +kernel) rfl rfl (opTo_sliceN tLg [.int .i64 v] rfl rfl (slice_lg v) ?_)
    intro w5 g5 hg5 hs5 hk5 hb5
    refine ⟨fun _ => hS.tr hk5, ?_⟩
    have hc25 : Own w5 w1.heap.size tLg 1 (.slice c2a j c2k) j (lgs (M.md.cells.take j)) := by
      have := hc2.keep (hS.tr hk5) (fun _ _ => by simp)
      unfold RowL at this
      rw [hjl] at this
      exact this
    refine dr_op 6 rfl (by decide +kernel) rfl rfl (opTo_app w1.heap.size tLg 1 8 (lgs (M.md.cells.take j)) [.int .i64 v] rfl rfl rfl app_lg hc25 (hb5.range rfl) rfl (one_v rfl) (by decide) (by unfold maxLen; omega) (by omega) ((hk3.tr hS).tr hk5).size ?_)
    intro g2 cap w6 hown hcase
    refine ⟨fun h => absurd (by simp) h, ?_⟩
    have htk : M.md.cells.take (j + 1) = M.md.cells.take j ++ [v] := by
      rw [List.take_add_one, cellAt_nat hja, hv]
      rfl
    have hrow : RowL w6 w1.heap.size (.slice (some ⟨g2, 0, none⟩) (j + 1) cap) (M.md.cells.take (j + 1)) := by
      have e2 : lgs (M.md.cells.take (j + 1)) = lgs (M.md.cells.take j) ++ [.int .i64 v] := by rw [htk, lgs_app]; rfl
      unfold RowL
      rw [show (M.md.cells.take (j + 1)).length = j + 1 by rw [List.length_take]; omega, e2]
      exact hown
    have hk6 : Keep (obs (.slice c2a j c2k)) w5 w6 := by
      rcases hcase with ⟨h3, _, h4⟩ | ⟨_, h4, _⟩
      · rw [obs, h3]; exact h4
      · exact h4.of0
    have hob : ∀ y ∈ obs (.slice (some ⟨g2, 0, none⟩) (j + 1) cap), y ∈ obs (.slice c2a j c2k) ∨ w5.heap.size ≤ y := fun y hy => by
      have hy : y = g2 := by simpa [obs, Value.ownBlock] using hy
      subst hy
      rcases hcase with ⟨h3, _, _⟩ | ⟨h3, _, _⟩
      · exact .inl (mem_obs.2 h3)
      · exact .inr (by omega)
    have hg5b := (hS.tr hk5).blk hg (by simp)
    have hc25' : RowL w5 w1.heap.size (.slice c2a j c2k) (M.md.cells.take j) := hc2.keep (hS.tr hk5) (fun _ _ => by simp)
    have hg6 := hk6.blk hg5b fun hm => hc25'.ne hg5b (by decide) g hm (by simp)
    have hov5 := hov.keep (hS.tr hk5) (fun _ _ => by simp)
    have hov6 := hov5.keep hk6 fun y hy => hap y hy
    refine tk 7 ?_
    refine dr_op 8 rfl (by decide +kernel) rfl rfl (opTo_storeN [.slice (some ⟨g2, 0, none⟩) (j + 1) cap] rfl rfl rfl rfl size_ls hg6 (by simp [resC]) (one_v rfl) ?_)
    intro w7 hs7 hk7 hb7
    refine ⟨fun h => absurd (by simp) h, ?_⟩
    refine dr_done (by decide +kernel) ?_
    have hk17 : Keep [] w1 w7 := (((hk3.tr hS).tr hk5).trans hk6 fun y hy => .inr (hc25'.lt y hy).1).trB hk7 hgw
    refine au ?_
    refine pl_num (((j + 1 : Nat) : Int)) rfl rfl rfl rfl rfl (by simp only [ariP]; omega) ?_
    refine au ?_
    refine rn_sub ?_ (ih (n - (j + 1)) [(0, .pointer (some ⟨x, 0, none⟩)), (4, .pointer (some ⟨x4, 0, none⟩)), (5, .pointer (some ⟨g, 0, none⟩)), (16, .int .i64 (n : Nat)), (17, .int .i64 ((j + 1 : Nat) : Int))] w7 (by omega) ⟨j + 1, _, by omega, rfl, rfl, hk17, hb7, hov6.keep hk7 (hov6.ne hg6 (by decide)), hrow.keep hk7 (hrow.ne hg6 (by decide)), fun y hy hm => ?_⟩)
    · exact ⟨rfl, rfl, rfl, rfl, rfl, trivial⟩
    · rcases hob y hm with h3 | h3
      · exact hap y hy h3
      · have := (hov5.lt y hy).2
        omega
  · have hjn : j = n := by omega
    subst hjn
    refine nay ?_
    refine au ?_
    obtain ⟨oa, ok, hov'⟩ := hov.form
    subst hov'
    refine pl_val (.agg (resC cd (.slice oa M.pr.1.length ok) (.slice c2a j c2k)).toArray) rfl rfl (val_load (resC cd (.slice oa M.pr.1.length ok) (.slice c2a j c2k)) hT rfl rfl rfl (hg.range (by rfl))) ?_
    have hb3 := hk3.blk hb1 (by simp)
    refine pl_op rfl rfl (opTo_storeN (resC cd (.slice oa M.pr.1.length ok) (.slice c2a j c2k)) rfl rfl rfl rfl size_re hb3 (by simp [resC]) (resC_one _ _ _ _ _ _ _) ?_)
    intro w4 hs4 hk4 hb4
    rw [splice_whole (by rfl)] at hb4
    refine au ?_
    exact rn_ret Tryz.func41 (.inr (.inr (.inl ⟨_, _, _, rfl, rfl, blk_loadVar hT hb4 rfl⟩))) ⟨⟨_, _, rfl, (hov.keep hk4 (hov.ne hb3 (by decide))).low hk1.size, RowL.low (hc2.keep hk4 (hc2.ne hb3 (by decide))) hk1.size⟩, (hk1.tr hk3).trB hk4 (by omega)⟩
end

/-! ### Its words, whole -/
/-- The words in which a mind stands; elsewhere those of Z. -/
def ovr (Z : List Int) (m : Md) : List Int := (List.range 112).map fun j =>
  if j = 0 then (m.next : Int) else if j = 1 then (m.stack.length : Int) else if j = 2 then (m.read : Int) else if j = 3 then (m.out : Int) else if j = 4 then (m.state : Int)
  else if j < 53 then (if j - 5 < m.cells.length then m.cells.getD (j - 5) 0 else Z.getD j 0) else (if j - 53 < m.stack.length then m.stack.getD (j - 53) 0 else Z.getD j 0)
theorem ovr_length (Z : List Int) (m : Md) : (ovr Z m).length = 112 := by simp [ovr]
theorem getD_some {l : List Int} {i : Nat} (h : i < l.length) : l[i]? = some (l.getD i 0) := by
  rw [List.getD_eq_getElem?_getD, List.getElem?_eq_getElem h]
  rfl
theorem Enb.whole {Z W : List Int} {m : Md} (h : Enb Z W m) (hW : W.length = 112) (hZ : Z.length = 112) (hc : m.cells.length ≤ 48) : W = ovr Z m := by
  refine List.ext_getElem? fun j => ?_
  by_cases hj : j < 112
  · have hr : (ovr Z m)[j]? = some (if j = 0 then (m.next : Int) else if j = 1 then (m.stack.length : Int) else if j = 2 then (m.read : Int) else if j = 3 then (m.out : Int) else if j = 4 then (m.state : Int)
        else if j < 53 then (if j - 5 < m.cells.length then m.cells.getD (j - 5) 0 else Z.getD j 0) else (if j - 53 < m.stack.length then m.stack.getD (j - 53) 0 else Z.getD j 0)) := by
      simp only [ovr, List.getElem?_map, List.getElem?_range hj, Option.map_some]
    rw [hr]
    by_cases e0 : j = 0
    · rw [if_pos e0, e0]; exact h.next
    rw [if_neg e0]
    by_cases e1 : j = 1
    · rw [if_pos e1, e1]; exact h.many
    rw [if_neg e1]
    by_cases e2 : j = 2
    · rw [if_pos e2, e2]; exact h.read
    rw [if_neg e2]
    by_cases e3 : j = 3
    · rw [if_pos e3, e3]; exact h.out
    rw [if_neg e3]
    by_cases e4 : j = 4
    · rw [if_pos e4, e4]; exact h.state
    rw [if_neg e4]
    by_cases e5 : j < 53
    · rw [if_pos e5]
      by_cases e6 : j - 5 < m.cells.length
      · rw [if_pos e6]
        have := h.cells (j - 5) _ (getD_some e6)
        rwa [show 5 + (j - 5) = j by omega] at this
      · rw [if_neg e6, h.agb j (by omega) (.inl e5)]
        exact getD_some (by omega)
    · rw [if_neg e5]
      by_cases e6 : j - 53 < m.stack.length
      · rw [if_pos e6]
        have := h.stack (j - 53) _ (getD_some e6)
        rwa [show 53 + (j - 53) = j by omega] at this
      · rw [if_neg e6, h.agb j (by omega) (.inr (by omega))]
        exact getD_some (by omega)
  · rw [List.getElem?_eq_none (by omega), List.getElem?_eq_none (by rw [ovr_length]; omega)]

/-- A machine at x, with its words. -/
def Vw (Y : Nat → List Int → Prop) (R : Nat → Prop) (B : Nat) (w : World) (x : Nat) (fp : List Nat) (M : Mx) (W : List Int) : Prop := Vx Y R B w x fp M.o fun W' => Enc W' M.md ∧ W' = W
/-- Its disk is at d, and holds the words KW. -/
def Yk (d : Nat) (KW : List Int) : Nat → List Int → Prop := fun d' S => d' = d ∧ allS S = KW
/-- The words behind one instruction. -/
def nwL (L : List Is) (inp : List Int) (m : Md) (W : List Int) : List Int := ovr W (stB L inp m ([], false)).1
theorem stB_fst (L : List Is) (inp : List Int) (m : Md) (p p' : Pr) : (stB L inp m p).1 = (stB L inp m p').1 := by
  unfold stB
  split
  · exact exI_fst _ _ _ _ _
  · rfl

section
variable {Y : Nat → List Int → Prop} {R : Nat → Prop} {B : Nat} {w w' : World} {x : Nat} {fp : List Nat} {M : Mx} {W KW : List Int} {d : Nat}
theorem Vw.len (h : Vw Y R B w x fp M W) : W.length = 112 := by
  obtain ⟨d, s, S, W', D, wv, cv, iv, pv, rfl, h, ⟨_, rfl⟩, _⟩ := h
  exact h.st.mem.wl
theorem Vw.m (h : Vw Y R B w x fp M W) : Vm Y W R B w x fp M := Vx.mono h fun _ _ e => ⟨e.1, fun j _ => by rw [e.2]⟩
theorem Vp.full {Z : List Int} (h : Vp Y Z R B w x fp M) (hZ : Z.length = 112) (hc : M.md.cells.length ≤ 48) : Vw Y R B w x fp M (ovr Z M.md) := Vx.mono h fun _ hl e => ⟨e.toEnc, e.whole hl hZ hc⟩
/-- One instruction, its words and those that are committed. -/
theorem mstep_w {c i : Nat} {Q : List Is} (h : Vw (Yk d KW) R B w x fp M W) (ho : Wo c Q M i) (hi : i ≤ 400000) (hs : M.md.state = 0) (hl : comB M.L M.md = true → M.left = 0 ∧ M.torn = false) :
    Ret Tryz.prog 60 [.pointer (some ⟨x, 0, none⟩)] w fun r w' => r = .bool true ∧ ∃ fp', Vw (Yk d (if comB M.L M.md then nwL M.L M.inp M.md W else KW)) R B w' x fp' (M.go (if comB M.L M.md then M.gen + 1 else M.gen)) (nwL M.L M.inp M.md W) ∧ Keep fp w w' ∧ ∀ k ∈ fp', k ∈ fp ∨ w.heap.size ≤ k := by
  have hcc := ho.fit.cells
  have hc48 := ho.c48
  have hmd : ∀ g, (M.go g).md = (stB M.L M.inp M.md ([], false)).1 := fun g => stB_fst _ _ _ _ _
  have hbn := (stB_bnd M.L M.inp M.md ([], false) ho.state).2.2.2
  refine (mstep_ret (Y' := Yk d (if comB M.L M.md then nwL M.L M.inp M.md W else KW)) h.m ho hi hs hl ?_ ?_).mono ?_
  · rintro hcm d' S S2 W' ⟨rfl, _⟩ he hl' hS
    refine ⟨rfl, ?_⟩
    rw [hcm, if_pos rfl, hS, he.b.whole hl' h.len (by show M.md.cells.length ≤ 48; omega)]
    unfold nwL
    have e : (M.at M.md).md = (stB M.L M.inp M.md ([], false)).1 := by
      have h15 : (M.L.getD M.md.next (0, 0, 0, 0)).1 = 15 := by
        unfold comB at hcm
        simp only [Bool.and_eq_true, decide_eq_true_eq] at hcm
        exact hcm.2
      unfold stB
      rw [if_pos hs]
      generalize M.L.getD M.md.next (0, 0, 0, 0) = y at h15 ⊢
      obtain ⟨op, A, K, N⟩ := y
      simp only at h15
      subst h15
      rfl
    rw [e]
  · rintro hcm d' S ⟨rfl, hS⟩
    exact ⟨rfl, by rw [hcm, if_neg (by decide)]; exact hS⟩
  · rintro r w' ⟨rfl, fp', h', hk, hf⟩
    refine ⟨rfl, fp', ?_, hk, hf⟩
    have h2 := h'.full h.len (by rw [hmd, hbn]; omega)
    rw [hmd] at h2
    exact h2
theorem maskB_zero (mask : Nat) : maskB ((mask : Nat) : Int) 0 = decide (mask % 2 = 1) := by
  unfold maskB
  have e : ((mask : Nat) : Int).fdiv (2 ^ (0 % 64)) = (mask : Nat) := by simp
  rw [e]
  have e2 : (BitVec.ofInt 64 ((mask : Nat) : Int) &&& BitVec.ofInt 64 1).toNat = mask % 2 := by
    have h1 : BitVec.ofInt 64 1 = 1#64 := by decide
    rw [h1, BitVec.toNat_and, BitVec.ofInt_natCast, BitVec.toNat_ofNat, BitVec.toNat_ofNat, show 1 % 2 ^ 64 = 1 by decide, Nat.and_one_is_mod]
    omega
  rw [e2]
  have h2 : mask % 2 = 0 ∨ mask % 2 = 1 := by omega
  rcases h2 with h2 | h2 <;> rw [h2] <;> decide
/-- Behind a torn commit the disk crashes: what stands on it then. -/
theorem TnD.crash {E : List Int → Prop} {O : Mo} (h : TnD (Yk d KW) E R B w w' fp O) (h0 : 0 < O.left) (mask : Nat) :
    ∃ W, E W ∧ W.length = 112 ∧ Ret Tryz.prog 63 [.pointer (some ⟨d, 0, none⟩), .int .u64 (mask : Nat)] w' fun r w'' => r = .tuple #[] ∧ Keep [d] w' w'' ∧ ∃ S2, DiskV B w'' d S2 [] (.slice none 0 0) ∧ Good S2 ∧
      allS S2 = (if O.left = 1 ∧ mask % 2 = 1 then W else KW) ∧ genS S2 = (if O.left = 1 ∧ mask % 2 = 1 then O.gen + 1 else O.gen) := by
  obtain ⟨d', S, W, D, wv, pv, he, ⟨rfl, hK⟩, hl, hG, ht, hgen, hd, _⟩ := h
  refine ⟨W, he, hl, ?_⟩
  have hlen : (dirtyPs W D).length ≤ 14 := dirtyTo_len W D 14
  have hcv := (commit_view hG (chk_dirty W D) (dirtyTo_wf hl D (by decide))).2 (((dirtyPs W D).length : Int) + 5 - O.left).toNat (by omega) (maskB (mask : Nat))
  have hll : (doDeeds ((deedsOf S (dirtyPs W D)).take (((dirtyPs W D).length : Int) + 5 - O.left).toNat) (S, [])).2.length < 1000000 := by
    have h1 := doDeeds_len ((deedsOf S (dirtyPs W D)).take (((dirtyPs W D).length : Int) + 5 - O.left).toNat) (S, [])
    have h2 : ((deedsOf S (dirtyPs W D)).take (((dirtyPs W D).length : Int) + 5 - O.left).toNat).length ≤ (((dirtyPs W D).length : Int) + 5 - O.left).toNat := by rw [List.length_take]; omega
    simp only [List.length_nil] at h1
    omega
  refine (crash_ret hd hll (mask : Nat)).mono ?_
  rintro r w'' ⟨rfl, hd2, hk2⟩
  refine ⟨rfl, hk2, _, hd2, ?_⟩
  by_cases hc : O.left = 1 ∧ mask % 2 = 1
  · have hN := hcv.1 ⟨by omega, by rw [maskB_zero]; simp [hc.2]⟩
    rw [if_pos hc, if_pos hc]
    exact ⟨hN.good, allS_eq hl (hN.all ht), by rw [hN.gen, hgen]⟩
  · have hS := hcv.2 fun h => hc ⟨by omega, by rw [maskB_zero] at h; simpa using h.2⟩
    rw [if_neg hc, if_neg hc]
    refine ⟨hS.good, ?_, by rw [hS.gen, hgen]⟩
    rw [← hK]
    unfold allS catS
    simp only [hS.read]
end
end E
end Go.Proofs.YtmplkogkphmmjafGreat

/- A life over the landed machine: its machine, its disk between two machines, a step of it, a torn commit, a crash, a wake. -/
namespace Go.Proofs.YtmplkogkphmmjafGreat
set_option maxRecDepth 20000
set_option maxHeartbeats 4000000
namespace E
open Go.Proofs

section
variable {Y : Nat → List Int → Prop} {R : Nat → Prop} {B : Nat} {w w' : World} {x d q : Nat} {fp fp2 : List Nat} {M : Mx} {W KW : List Int} {pv : Value} {p : Pr} {g : Int}
/-- A machine whose words are those of W behind the cells, and W is what it knows. -/
theorem Vm.wds (h : Vm Y W R B w x fp M) (he : Enc W M.md) (hW : W.length = 112) (hc : M.md.cells.length ≤ 48) : Vw Y R B w x fp M W := Vx.mono h fun W' hl e => ⟨e.toEnc, by
  have h1 := e.b.whole hl hW hc
  have h2 : W = ovr W M.md := Enb.whole ⟨he, fun _ _ _ => rfl⟩ hW hW hc
  rw [h1]
  exact h2.symm⟩
theorem Vw.enc (h : Vw Y R B w x fp M W) : Enc W M.md := by
  obtain ⟨d, s, S, W', D, wv, cv, iv, pv, rfl, h, ⟨he, rfl⟩, _⟩ := h
  exact he

/-- Between two machines: nothing waits on the disk at d, it holds the words KW; the printer at q. -/
structure Dk (R : Nat → Prop) (B : Nat) (w : World) (d q : Nat) (pv : Value) (p : Pr) (KW : List Int) (g : Int) : Prop where
  dsk : ∃ S, DiskV B w d S [] (.slice none 0 0) ∧ Good S ∧ allS S = KW ∧ genS S = g
  pr : Pv R B w q pv p
  nr : ¬ R d
theorem Dk.keep (h : Dk R B w d q pv p KW g) (hk : Keep fp2 w w') (hn : ∀ k ∈ fp2, k ∉ d :: q :: obs pv) : Dk R B w' d q pv p KW g := by
  obtain ⟨⟨S, h1, h2⟩, h3, h4⟩ := h
  refine ⟨⟨S, h1.keep hk fun k hm h => ?_, h2⟩, h3.keep hk fun k hm hq => hn k hm (List.mem_cons_of_mem _ hq), h4⟩
  have : k = d := by simpa [fpD, Value.ownBlock] using hm
  exact hn k h (by rw [this]; simp)
theorem Dk.keep0 (h : Dk R B w d q pv p KW g) (hk : Keep [] w w') : Dk R B w' d q pv p KW g := h.keep hk fun k hk => by cases hk
theorem Dk.lt (h : Dk R B w d q pv p KW g) : ∀ k ∈ d :: q :: obs pv, B ≤ k ∧ k < w.heap.size ∧ ¬ R k := fun k hk => by
  obtain ⟨⟨S, h1, h2⟩, h3, h4⟩ := h
  rcases List.mem_cons.1 hk with rfl | hk
  · exact ⟨h1.base, h1.blk.lt, h4⟩
  · exact h3.lt k hk
/-- A new disk and a new printer. -/
theorem Dk.first {B0 : Nat} (hd : DiskV B0 w d (List.replicate 272 0) [] (.slice none 0 0)) (hB0 : B ≤ B0) (hp : Blk w q pz0 tPr) (hq : B ≤ q ∧ ¬ R q) (hnr : ¬ R d) (hro : ∀ k, R k → k < w.heap.size) : Dk R B w d q (.slice none 0 0) ([], false) (List.replicate 112 0) 0 := by
  rw [show List.replicate 272 (0 : Int) = S0 from rfl] at hd
  have hpv : Pv R B w q (.slice none 0 0) ([], false) := ⟨hp, RowL.nil _ _, hq.1, hro, fun k hk => by
    have hk : k = q := by simpa [obs, Value.ownBlock] using hk
    rw [hk]
    exact hq.2⟩
  exact ⟨⟨S0, ⟨hd.blk, World.ownsRow_nil _ _ _ _, hd.ne, hd.len, Nat.le_trans hB0 hd.base, hd.wf⟩, good0, allS0, genS0⟩, hpv, hnr⟩
/-- Those of the blocks alone in which instructions lie. -/
theorem InsV.own {F : Nat → Prop} {v : Value} {l : List Is} (h : InsV F w v l) : ∃ rb : List Nat, (∀ k ∈ rb, F k) ∧ InsV (· ∈ rb) w v l := by
  obtain ⟨a, cap, e, h2⟩ := h
  by_cases h0 : 0 < l.length
  · obtain ⟨b, o, e1, hF, hr⟩ := h2 h0
    exact ⟨[b], fun k hk => by rw [List.mem_singleton.1 hk]; exact hF, a, cap, e, fun _ => ⟨b, o, e1, by simp, hr⟩⟩
  · exact ⟨[], ⟨fun k hk => (by cases hk), a, cap, e, fun h => absurd h h0⟩⟩
theorem disk_off {S : List Int} {L : List Wr} {wv : Value} (hd : DiskV B w d S L wv) (hp : Pv R B w q pv p) : ∀ k ∈ [d], k ∉ q :: obs pv := fun k hk hq => by
  have hk := List.mem_singleton.1 hk
  rcases List.mem_cons.1 hq with h5 | h5
  · exact Blk.ne hd.blk hp.blk (by decide) (hk.symm.trans h5)
  · exact hp.row.ne hd.blk (by decide) k h5 (by rw [hk]; simp)
/-- The disk of a machine crashes. -/
theorem Vw.crash (h : Vw (Yk d KW) R B w x fp M W) (mask : Nat) :
    Ret Tryz.prog 63 [.pointer (some ⟨d, 0, none⟩), .int .u64 (mask : Nat)] w fun r w' => r = .tuple #[] ∧ ∃ pv, Dk R B w' d M.q pv M.pr KW M.gen ∧ Keep [d] w w' ∧ ∀ k ∈ d :: M.q :: obs pv, k ∈ fp := by
  obtain ⟨d', s, S, W', D, wv, cv, iv, pv, rfl, h, ⟨_, rfl⟩, rfl, hK⟩ := h
  refine (crash_ret h.st.dsk (by simp) (mask : Nat)).mono ?_
  rintro r w' ⟨rfl, hd, hk⟩
  have hin : ∀ k ∈ d' :: M.q :: obs pv, k ∈ fpV x d' s M.o.m wv M.o.q pv iv := fun k hk => by
    rcases List.mem_cons.1 hk with rfl | hk
    · exact mem_fpV.2 (.inr (.inr (.inr (.inl (by simp [fpD])))))
    · exact mem_fpV.2 (.inr (.inr (.inr (.inr (.inl hk)))))
  exact ⟨rfl, pv, ⟨⟨S, hd, h.st.good, hK, h.gen⟩, h.pr.keep hk (disk_off h.st.dsk h.pr), h.nr _ (hin _ (by simp))⟩, hk, hin⟩
theorem TnD.keep0 {w'' : World} {E : List Int → Prop} {O : Mo} (h : TnD Y E R B w w' fp O) (hk : Keep [] w' w'') : TnD Y E R B w w'' fp O := by
  obtain ⟨d', S, W', D, wv, pv, t1, t2, t3, t4, t5, t6, hd, hp, t7⟩ := h
  exact ⟨d', S, W', D, wv, pv, t1, t2, t3, t4, t5, t6, hd.keep hk (fun _ _ => by simp), hp.keep0 hk, t7⟩
/-- The disk crashes behind a torn commit. -/
theorem TnD.dk {E : List Int → Prop} {O : Mo} (h : TnD (Yk d KW) E R B w w' fp O) (h0 : 0 < O.left) (hd0 : d ∈ fp) (hnr : ¬ R d) (mask : Nat) :
    ∃ W, E W ∧ W.length = 112 ∧ Ret Tryz.prog 63 [.pointer (some ⟨d, 0, none⟩), .int .u64 (mask : Nat)] w' fun r w'' => r = .tuple #[] ∧ ∃ pv,
      Dk R B w'' d O.q pv O.pr (if O.left = 1 ∧ mask % 2 = 1 then W else KW) (if O.left = 1 ∧ mask % 2 = 1 then O.gen + 1 else O.gen) ∧ Keep [d] w' w'' ∧ ∀ k ∈ d :: O.q :: obs pv, k ∈ fp := by
  obtain ⟨W, he, hl, hr⟩ := h.crash h0 mask
  obtain ⟨d', S, W', D, wv, pv, _, ⟨rfl, _⟩, _, _, _, _, hd, hp, _, hf⟩ := h
  refine ⟨W, he, hl, hr.mono ?_⟩
  rintro r w'' ⟨rfl, hk, S2, h1, h2, h3, h4⟩
  refine ⟨rfl, pv, ⟨⟨S2, h1, h2, h3, h4⟩, hp.keep hk (disk_off hd hp), hnr⟩, hk, fun k hk => ?_⟩
  rcases List.mem_cons.1 hk with rfl | hk
  · exact hd0
  · exact hf k hk

/-! ### The machine of a life -/
/-- The machine at x is the life z's; its disk is at d, its printer at q. -/
def Lm (R : Nat → Prop) (B : Nat) (w : World) (d q : Nat) (L : List Is) (inp : List Int) (x : Nat) (fp : List Nat) (z : Lz) : Prop :=
  (∃ m, Vw (Yk d z.KW) R B w x fp ⟨L, inp, m, q, z.lf.m, z.lf.p, 0, false, z.gen⟩ z.W) ∧ Enc z.KW z.lf.k ∧ z.KW.length = 112
/-- It is in order. -/
def Lo (c i : Nat) (Q : List Is) (inp : List Int) (z : Lz) : Prop := Wo c Q ⟨Q ++ [haltI], inp, 0, 0, z.lf.m, z.lf.p, 0, false, z.gen⟩ i
end
section
variable {R : Nat → Prop} {B : Nat} {w w' : World} {x d q c i : Nat} {fp fp2 : List Nat} {L Q : List Is} {inp : List Int} {z : Lz}
theorem Lo.at (h : Lo c i Q inp z) (m q : Nat) (left : Int) : Wo c Q ⟨Q ++ [haltI], inp, m, q, z.lf.m, z.lf.p, left, false, z.gen⟩ i := ⟨h.prg, h.c48, h.code, h.fit, h.inp, h.out, h.read, h.gen0, h.gen, h.state⟩
theorem Lo.cells (h : Lo c i Q inp z) : z.lf.m.cells.length ≤ 48 := by
  have h1 : (z.lf.m.cells.length : Int) = c := h.fit.cells
  have h2 := h.c48
  omega
theorem Lm.lt (h : Lm R B w d q L inp x fp z) : ∀ k ∈ fp, B ≤ k ∧ k < w.heap.size ∧ ¬ R k := by
  obtain ⟨⟨m, h⟩, _⟩ := h
  exact Vx.lt h
theorem Lm.keep (h : Lm R B w d q L inp x fp z) (hk : Keep fp2 w w') (hn : ∀ k ∈ fp2, ¬ R k ∧ k ∉ fp) : Lm R B w' d q L inp x fp z := by
  obtain ⟨⟨m, h⟩, he⟩ := h
  exact ⟨⟨m, Vx.keep h hk hn⟩, he⟩
theorem Lm.keep0 (h : Lm R B w d q L inp x fp z) (hk : Keep [] w w') : Lm R B w' d q L inp x fp z := h.keep hk fun k hk => by cases hk
/-- One instruction. -/
theorem Lm.step (h : Lm R B w d q (Q ++ [haltI]) inp x fp z) (ho : Lo c i Q inp z) (hi : i ≤ 400000) (hs : z.lf.m.state = 0) :
    Ret Tryz.prog 60 [.pointer (some ⟨x, 0, none⟩)] w fun r w' => r = .bool true ∧ ∃ fp', Lm R B w' d q (Q ++ [haltI]) inp x fp' (stepZ nwL (Q ++ [haltI]) inp true z) ∧ Keep fp w w' ∧ ∀ k ∈ fp', k ∈ fp ∨ w.heap.size ≤ k := by
  obtain ⟨⟨m, h⟩, he, hl⟩ := h
  refine (mstep_w h (ho.at m q 0) hi hs fun _ => ⟨rfl, rfl⟩).mono ?_
  rintro r w' ⟨rfl, fp', h', hk, hf⟩
  refine ⟨rfl, fp', ?_, hk, hf⟩
  by_cases hc : comB (Q ++ [haltI]) z.lf.m = true
  · have e : stepZ nwL (Q ++ [haltI]) inp true z = ⟨stepL (Q ++ [haltI]) inp true z.lf, nwL (Q ++ [haltI]) inp z.lf.m z.W, nwL (Q ++ [haltI]) inp z.lf.m z.W, z.gen + 1⟩ := by
      unfold stepZ
      rw [hc]
      rfl
    have hk' : (stepL (Q ++ [haltI]) inp true z.lf).k = (stB (Q ++ [haltI]) inp z.lf.m z.lf.p).1 := by
      simp only [stepL, hc, Bool.and_self, if_pos]
    simp only [hc, if_pos] at h'
    rw [e]
    exact ⟨⟨m, h'⟩, by rw [hk']; exact Vw.enc h', by unfold nwL; exact ovr_length _ _⟩
  · have hc : comB (Q ++ [haltI]) z.lf.m = false := by simpa using hc
    have e : stepZ nwL (Q ++ [haltI]) inp true z = ⟨stepL (Q ++ [haltI]) inp true z.lf, nwL (Q ++ [haltI]) inp z.lf.m z.W, z.KW, z.gen⟩ := by
      unfold stepZ
      rw [hc]
      rfl
    have hk' : (stepL (Q ++ [haltI]) inp true z.lf).k = z.lf.k := by
      simp only [stepL, hc, Bool.and_false]
      rfl
    simp only [hc] at h'
    rw [e]
    exact ⟨⟨m, h'⟩, by rw [hk']; exact he, hl⟩
/-- It goes on no more. -/
theorem Lm.off (h : Lm R B w d q L inp x fp z) (hs : z.lf.m.state ≠ 0) : Ret Tryz.prog 60 [.pointer (some ⟨x, 0, none⟩)] w fun r w' => r = .bool false ∧ Keep [] w w' := by
  obtain ⟨⟨m, h⟩, _⟩ := h
  exact mstep_off h.m hs
theorem Lm.commits (h : Lm R B w d q (Q ++ [haltI]) inp x fp z) (ho : Lo c i Q inp z) : Ret Tryz.prog 61 [.pointer (some ⟨x, 0, none⟩)] w fun r w' => r = .bool (comB (Q ++ [haltI]) z.lf.m) ∧ Keep [] w w' := by
  obtain ⟨⟨m, h⟩, _⟩ := h
  exact mcommits_ret h.m (ho.at m q 0)
theorem Lm.crash (h : Lm R B w d q L inp x fp z) (mask : Nat) :
    Ret Tryz.prog 63 [.pointer (some ⟨d, 0, none⟩), .int .u64 (mask : Nat)] w fun r w' => r = .tuple #[] ∧ ∃ pv, Dk R B w' d q pv z.lf.p z.KW z.gen ∧ Keep [d] w w' ∧ ∀ k ∈ d :: q :: obs pv, k ∈ fp := by
  obtain ⟨⟨m, h⟩, _⟩ := h
  exact h.crash mask
/-- It is to be torn. -/
def Lt' (R : Nat → Prop) (B : Nat) (w : World) (d q : Nat) (L : List Is) (inp : List Int) (x : Nat) (fp : List Nat) (z : Lz) (left : Int) : Prop :=
  (∃ m, Vw (Yk d z.KW) R B w x fp ⟨L, inp, m, q, z.lf.m, z.lf.p, left, false, z.gen⟩ z.W) ∧ Enc z.KW z.lf.k ∧ z.KW.length = 112
theorem Lm.tear (h : Lm R B w d q L inp x fp z) (hc : z.lf.m.cells.length ≤ 48) (n : Int) : Ret Tryz.prog 62 [.pointer (some ⟨x, 0, none⟩), .int .i64 n] w fun r w' => r = .tuple #[] ∧ Lt' R B w' d q L inp x fp z n ∧ Keep fp w w' := by
  obtain ⟨⟨m, h⟩, he⟩ := h
  refine (mtear_ret h.m n).mono ?_
  rintro r w' ⟨rfl, h2, hk⟩
  exact ⟨rfl, ⟨⟨m, Vm.wds h2 h.enc h.len hc⟩, he⟩, hk⟩
/-- A torn commit, and the crash behind it. -/
theorem Lt'.tears {left : Int} (h : Lt' R B w d q (Q ++ [haltI]) inp x fp z left) (ho : Lo c i Q inp z) (hi : i ≤ 400000) (hcm : comB (Q ++ [haltI]) z.lf.m = true) (hl0 : 0 ≤ left) (hl1 : left < 9223372036854775808) (mask : Nat) {keep : Bool} (hkeep : keep = (left == 0 || (left == 1 && mask % 2 == 1))) :
    Ret Tryz.prog 60 [.pointer (some ⟨x, 0, none⟩)] w fun r w' => r = .bool true ∧ Keep fp w w' ∧ ∀ w1, Keep [] w' w1 →
      Ret Tryz.prog 63 [.pointer (some ⟨d, 0, none⟩), .int .u64 (mask : Nat)] w1 fun r w'' => r = .tuple #[] ∧ ∃ pv,
        Dk R B w'' d q pv (stepZ nwL (Q ++ [haltI]) inp keep z).lf.p (stepZ nwL (Q ++ [haltI]) inp keep z).KW (stepZ nwL (Q ++ [haltI]) inp keep z).gen ∧ Enc (stepZ nwL (Q ++ [haltI]) inp keep z).KW (stepZ nwL (Q ++ [haltI]) inp keep z).lf.k ∧ (stepZ nwL (Q ++ [haltI]) inp keep z).KW.length = 112 ∧ Keep [d] w1 w'' ∧ ∀ k ∈ d :: q :: obs pv, k ∈ fp ∨ w.heap.size ≤ k := by
  by_cases h0 : left = 0
  · subst h0
    have hk1 : keep = true := by rw [hkeep]; rfl
    rw [hk1]
    refine (Lm.step h ho hi (by
      unfold comB at hcm
      simp only [Bool.and_eq_true, decide_eq_true_eq] at hcm
      exact hcm.1)).mono ?_
    rintro r w' ⟨rfl, fp', h', hk, hf⟩
    refine ⟨rfl, hk, fun w1 hk1 => ((h'.keep0 hk1).crash mask).mono ?_⟩
    rintro r w'' ⟨rfl, pv, hd, hk2, hf2⟩
    exact ⟨rfl, pv, hd, h'.2.1, h'.2.2, hk2, fun k hk => hf k (hf2 k hk)⟩
  · obtain ⟨⟨m, h⟩, he, hl⟩ := h
    have hdf : d ∈ fp ∧ ¬ R d := by
      obtain ⟨d', s, S, W', D, wv, cv, iv, pv, rfl, h, _, rfl, _⟩ := h
      have : d' ∈ fpV x d' s m wv q pv iv := mem_fpV.2 (.inr (.inr (.inr (.inl (by simp [fpD])))))
      exact ⟨this, h.nr _ this⟩
    have hlen := h.len
    have henc := h.enc
    have hc48 := ho.cells
    refine (mtears_ret h.m (ho.at m q left) hi hcm (by show 0 < left; omega) hl1).mono ?_
    rintro r w' ⟨rfl, ht, hk⟩
    refine ⟨rfl, hk, fun w1 hk1 => ?_⟩
    obtain ⟨W2, hE, hl2, hr⟩ := (ht.keep0 hk1).dk (by show 0 < left; omega) hdf.1 hdf.2 mask
    have hst : (stB (Q ++ [haltI]) inp z.lf.m z.lf.p) = ({ z.lf.m with next := z.lf.m.next + 1 }, z.lf.p) := by
      unfold comB at hcm
      simp only [Bool.and_eq_true, decide_eq_true_eq] at hcm
      obtain ⟨hs, h15⟩ := hcm
      unfold stB
      rw [if_pos hs]
      generalize (Q ++ [haltI]).getD z.lf.m.next (0, 0, 0, 0) = y at h15 ⊢
      obtain ⟨op, A, K, N⟩ := y
      simp only at h15
      subst h15
      rfl
    have hW2 : W2 = nwL (Q ++ [haltI]) inp z.lf.m z.W := by
      unfold nwL
      rw [stB_fst _ _ _ _ z.lf.p, hst]
      exact hE.b.whole hl2 hlen hc48
    refine hr.mono ?_
    rintro r w'' ⟨rfl, pv, hd, hk2, hf2⟩
    refine ⟨rfl, pv, ?_⟩
    by_cases hc : left = 1 ∧ mask % 2 = 1
    · have hkt : keep = true := by rw [hkeep]; simp [hc.1, hc.2]
      have e : stepZ nwL (Q ++ [haltI]) inp keep z = ⟨stepL (Q ++ [haltI]) inp true z.lf, nwL (Q ++ [haltI]) inp z.lf.m z.W, nwL (Q ++ [haltI]) inp z.lf.m z.W, z.gen + 1⟩ := by
        unfold stepZ
        rw [hkt, hcm]
        rfl
      have hd' : Dk R B w'' d q pv z.lf.p W2 (z.gen + 1) := by
        have h7 : Dk R B w'' d q pv z.lf.p (if left = 1 ∧ mask % 2 = 1 then W2 else z.KW) (if left = 1 ∧ mask % 2 = 1 then z.gen + 1 else z.gen) := hd
        rwa [if_pos hc, if_pos hc] at h7
      rw [e]
      refine ⟨?_, ?_, ?_, hk2, fun k hk => .inl (hf2 k hk)⟩
      · show Dk R B w'' d q pv (stB (Q ++ [haltI]) inp z.lf.m z.lf.p).2 _ _
        rw [hst, ← hW2]
        exact hd'
      · show Enc _ (if (true && comB (Q ++ [haltI]) z.lf.m) = true then (stB (Q ++ [haltI]) inp z.lf.m z.lf.p).1 else z.lf.k)
        rw [hcm, if_pos (by rfl), hst, ← hW2]
        exact hE.toEnc
      · rw [← hW2]
        exact hl2
    · have hkt : keep = false := by
        rw [hkeep]
        by_cases h1 : left = 1
        · have : ¬ mask % 2 = 1 := fun h => hc ⟨h1, h⟩
          simp [h1, this]
        · simp [h0, h1]
      have e : stepZ nwL (Q ++ [haltI]) inp keep z = ⟨stepL (Q ++ [haltI]) inp false z.lf, nwL (Q ++ [haltI]) inp z.lf.m z.W, z.KW, z.gen⟩ := by
        unfold stepZ
        rw [hkt]
        rfl
      have hd' : Dk R B w'' d q pv z.lf.p z.KW z.gen := by
        have h7 : Dk R B w'' d q pv z.lf.p (if left = 1 ∧ mask % 2 = 1 then W2 else z.KW) (if left = 1 ∧ mask % 2 = 1 then z.gen + 1 else z.gen) := hd
        rwa [if_neg hc, if_neg hc] at h7
      rw [e]
      refine ⟨?_, he, hl, hk2, fun k hk => .inl (hf2 k hk)⟩
      show Dk R B w'' d q pv (stB (Q ++ [haltI]) inp z.lf.m z.lf.p).2 _ _
      rw [hst]
      exact hd'
/-- The new machine's memory. -/
theorem Dk.mem {pv : Value} {p : Pr} {KW : List Int} {g : Int} {s : Nat} (h : Dk R B w d q pv p KW g) (hs : StoreV w s d) :
    Ret Tryz.prog 50 [.pointer (some ⟨s, 0, none⟩)] w fun v w' => ∃ m, v = .pointer (some ⟨m, 0, none⟩) ∧ w.heap.size ≤ m ∧ MemV w' m s KW (List.replicate 14 false) ∧ Keep [] w w' := by
  obtain ⟨⟨S, h1, h2, rfl, _⟩, _⟩ := h
  exact mnew_ret hs h1
/-- The new machine. -/
theorem Dk.wake {pv cv iv : Value} {p : Pr} {g : Int} {s m : Nat} {KW : List Int} {k : Md} {W : List Int} {mm : Md} (h : Dk R B w d q pv p KW g) (hs : StoreV w s d) (hsB : B ≤ s ∧ ¬ R s) (hm : MemV w m s KW (List.replicate 14 false)) (hmB : B ≤ m ∧ ¬ R m) (he : Enc KW k) (hc : k.cells.length ≤ 48) (hl : KW.length = 112)
    (hcv : InsV R w cv L) (hiv : LsR R w iv inp) (hil : inp.length ≤ 1000000) :
    Ret Tryz.prog 49 [.pointer (some ⟨m, 0, none⟩), cv, iv, .pointer (some ⟨q, 0, none⟩)] w fun r w' => ∃ x fp, r = .pointer (some ⟨x, 0, none⟩) ∧ Lm R B w' d q L inp x fp (wakeZ ⟨⟨mm, k, p⟩, W, KW, g⟩) ∧ Keep [] w w' ∧ ∀ b ∈ fp, b ∈ d :: q :: obs pv ∨ b = s ∨ b = m ∨ w.heap.size ≤ b := by
  obtain ⟨⟨S, h1, h2, rfl, rfl⟩, hp, hnr⟩ := h
  have hst : St B w d s m S (allS S) (List.replicate 14 false) (.slice none 0 0) := fresh_st hm hs h1 h2 (Keep.refl _ _) hmB.1
  have hfm : ∀ b ∈ fpM d s m (.slice none 0 0), b = m ∨ b = s ∨ b = d := fun b hb => by
    simpa [fpM, fpD, Value.ownBlock] using hb
  refine (mnew_m (Y := Yk d (allS S)) (Z := allS S) (md := k) hst hsB.1 (fun b hb => ?_) ⟨he, fun _ _ => rfl⟩ ⟨rfl, rfl⟩ ⟨pv, rfl, hp⟩ hcv hiv hp.ro hil).mono ?_
  · rcases hfm b hb with rfl | rfl | rfl
    · exact hmB.2
    · exact hsB.2
    · exact hnr
  · rintro r w' ⟨x, fp, rfl, hv, hk, hf⟩
    refine ⟨x, fp, rfl, ⟨⟨m, Vm.wds hv he hl hc⟩, he, hl⟩, hk, fun b hb => ?_⟩
    rcases hf b hb with h3 | h3 | h3
    · rcases hfm b h3 with rfl | rfl | rfl
      · exact .inr (.inr (.inl rfl))
      · exact .inr (.inl rfl)
      · exact .inl (by simp)
    · exact .inl (List.mem_cons_of_mem _ h3)
    · exact .inr (.inr (.inr h3))
end

/-! ### What is told of it -/
theorem RowL.lsC {w : World} {B : Nat} {v : Value} {l : List Int} (h : RowL w B v l) : LsC w v l := ⟨h.lies, fun a n cap e => by
  subst e
  rcases h.2 with ⟨e, _⟩ | ⟨g, cap', cur, e, _, _, hc, _⟩
  · cases e
    exact Nat.le_refl _
  · cases e
    exact hc⟩
theorem RowL.nw {w w0 : World} {v : Value} {l : List Int} (h : RowL w w0.heap.size v l) : Nw w0 v := fun b q n c e h0 => by
  subst e
  rcases h.2 with ⟨e, _⟩ | ⟨g, cap', cur, e, hB, _⟩
  · cases e
  · cases e
    exact hB
section
variable {R : Nat → Prop} {B : Nat} {w w' : World} {x d q c i : Nat} {fp fp2 : List Nat} {L Q : List Is} {inp : List Int} {z : Lz}
theorem Lm.result (h : Lm R B w d q L inp x fp z) (hp : z.lf.p.2 = false) (hst : z.lf.m.state ≤ 1000) (hpl : z.lf.p.1.length ≤ 400000) (hc : z.lf.m.cells.length ≤ 48) {n : Nat} (hn : n = z.lf.m.cells.length) :
    Ret Tryz.prog 41 [.pointer (some ⟨x, 0, none⟩), .int .i64 (n : Nat)] w fun r w' => (∃ ov cv, r = .agg (resC (codeB z.lf.m z.lf.p) ov cv).toArray ∧ LsC w' ov z.lf.p.1 ∧ LsV w' cv z.lf.m.cells ∧ Nw w ov ∧ Nw w cv) ∧ Keep [] w w' := by
  obtain ⟨⟨m, h⟩, _⟩ := h
  refine (mresult_ret h.m hp hst hpl hc (n := n) (by show n ≤ z.lf.m.cells.length; omega)).mono ?_
  rintro r w' ⟨⟨ov, cv, rfl, h1, h2⟩, hk⟩
  have e : z.lf.m.cells.take n = z.lf.m.cells := by rw [hn, List.take_length]
  have h2 : RowL w' w.heap.size cv (z.lf.m.cells.take n) := h2
  rw [e] at h2
  have h1 : RowL w' w.heap.size ov z.lf.p.1 := h1
  exact ⟨⟨ov, cv, rfl, h1.lsC, h2.lies, h1.nw, h2.nw⟩, hk⟩
theorem Lm.ptrs (h : Lm R B w d q L inp x fp z) : ∃ m s, w.cell? ⟨x, 0, none⟩ = some (.pointer (some ⟨m, 0, none⟩)) ∧ w.cell? ⟨m, 0, none⟩ = some (.pointer (some ⟨s, 0, none⟩)) := by
  obtain ⟨⟨m, d', s, S, W', D, wv, cv, iv, pv, rfl, h, _⟩, _⟩ := h
  exact ⟨m, s, h.blk.cell rfl, h.st.mem.blk.cell rfl⟩
end
/-! ### It is in order -/
theorem InvZ.lo {vs : List VarT} {body : List ST} {inp : List Int} {z : Lz} {i : Nat} (h : InvZ vs body inp z i) (hpf : progFault vs body = 0) (hsz : szSs body ≤ 1000) (hil : inp.length ≤ 40) : Lo (sumV vs).toNat i (insSs vs body 0) inp z ∧ (z.lf.k.cells.length : Int) = (sumV vs).toNat ∧ (z.lf.m.cells.length : Int) = (sumV vs).toNat ∧ (sumV vs).toNat ≤ 48 ∧ z.lf.p.2 = false := by
  obtain ⟨⟨g0, g1⟩, g, hg, hI⟩ := h
  obtain ⟨c, hc, h48, hP⟩ := prog_prg hpf hsz
  have hcc : c = (sumV vs).toNat := by omega
  subst hcc
  obtain ⟨f1, f2, f3, f4, f5, f6, f7⟩ := InvL.fit hI hP
  exact ⟨⟨hP, h48, rfl, f1, by show inp.length ≤ 1000; omega, by show z.lf.p.1.length ≤ i; omega, by show z.lf.m.read ≤ i; omega, g0, g1, f4⟩, f6, f1.cells, h48, f7⟩
theorem InvZ.one {vs : List VarT} {body : List ST} {inp : List Int} {z : Lz} {i : Nat} {nw : List Is → List Int → Md → List Int → List Int} (h : InvZ vs body inp z i) (keep : Bool) : InvZ vs body inp (stepZ nw (insP vs body) inp keep z) (i + 1) := by
  obtain ⟨⟨g0, g1⟩, g, hg, hI⟩ := h
  obtain ⟨a1, a2⟩ := stepZ_gen (nw := nw) (L := insP vs body) (inp := inp) keep z
  obtain ⟨g', b1, b2, b3⟩ := hI.step keep
  exact ⟨⟨by omega, by omega⟩, g', by omega, by rw [stepZ_lf]; exact b3⟩
/-- One of the two, by its kind. -/
def goZ (nw : List Is → List Int → Md → List Int → List Int) (L : List Is) (inp : List Int) (kd : Int) (keep : Bool) (n : Nat) (z : Lz) : Lz × Nat := if kd = 3 then tearZ nw L inp keep n z else runZ nw L inp n z
theorem goZ_zero (nw : List Is → List Int → Md → List Int → List Int) (L : List Is) (inp : List Int) (kd : Int) (keep : Bool) (z : Lz) : goZ nw L inp kd keep 0 z = (z, 0) := by
  unfold goZ
  split <;> rfl
theorem goZ_succ (nw : List Is → List Int → Md → List Int → List Int) (L : List Is) (inp : List Int) (kd : Int) (keep : Bool) (n : Nat) (z : Lz) : goZ nw L inp kd keep (n + 1) z = if kd = 3 ∧ comB L z.lf.m = true then (wakeZ (stepZ nw L inp keep z), 1) else if z.lf.m.state = 0 then ((goZ nw L inp kd keep n (stepZ nw L inp true z)).1, (goZ nw L inp kd keep n (stepZ nw L inp true z)).2 + 1) else (z, 0) := by
  unfold goZ
  by_cases h : kd = 3
  · simp only [h, if_pos, true_and, tearZ]
  · simp only [h, if_neg, false_and, not_false_eq_true, runZ]
theorem doZ_go (nw : List Is → List Int → Md → List Int → List Int) (L : List Is) (inp : List Int) (kd : Int) (n : Nat) (keep : Bool) (z : Lz) (h : kd ≠ 2) : doZ nw L inp kd n keep z = goZ nw L inp kd keep n z := by
  unfold doZ goZ
  rw [if_neg h]
end E
end Go.Proofs.YtmplkogkphmmjafGreat

/- The landed life, as it lies in memory; wake, Now. -/
namespace Go.Proofs.YtmplkogkphmmjafGreat
set_option maxRecDepth 20000
set_option maxHeartbeats 4000000
namespace E
open Go.Proofs

abbrev tLf : Nat := 65
def lfC (mv : Value) (d q : Nat) (cv iv : Value) (n : Nat) : List Value := [mv, .pointer (some ⟨d, 0, none⟩), cv, iv, .pointer (some ⟨q, 0, none⟩), .int .i64 (n : Nat)]
/-- What of a life stays: its block's own fields, the code and the input. -/
structure Lfk (rd : List Nat) (B : Nat) (w : World) (y : Nat) (mv : Value) (d q : Nat) (cv iv : Value) (L : List Is) (ip : List Int) (n : Nat) : Prop where
  blk : Blk w y (lfC mv d q cv iv n) tLf
  code : InsV (· ∈ rd) w cv L
  inp : LsR (· ∈ rd) w iv ip
  ge : B ≤ y
  low : ∀ k ∈ rd, B ≤ k ∧ k < w.heap.size
  nrd : y ∉ rd
  il : ip.length ≤ 40
def LV (vs : List VarT) (body : List ST) (inp : List Int) (B : Nat) (w : World) (y : Nat) (fp : List Nat) (z : Lz) : Prop :=
  ∃ x d q cv iv rd fm, fp = y :: (fm ++ rd) ∧ Lfk rd B w y (.pointer (some ⟨x, 0, none⟩)) d q cv iv (insP vs body) inp (sumV vs).toNat ∧ Lm (· ∈ rd) B w d q (insP vs body) inp x fm z ∧ y ∉ fm
section
variable {rd : List Nat} {B : Nat} {w w' : World} {y d q n : Nat} {mv cv iv : Value} {L : List Is} {inp : List Int} {fp2 : List Nat}
theorem Lfk.keep (h : Lfk rd B w y mv d q cv iv L inp n) (hk : Keep fp2 w w') (hn : ∀ k ∈ fp2, k ≠ y ∧ k ∉ rd) : Lfk rd B w' y mv d q cv iv L inp n := by
  refine ⟨hk.blk h.blk fun hm => (hn y hm).1 rfl, h.code.keep hk fun c hR => ⟨(h.low c hR).2, fun hm => (hn c hm).2 hR⟩, ?_, h.ge, fun k hk' => ⟨(h.low k hk').1, Nat.lt_of_lt_of_le (h.low k hk').2 hk.size⟩, h.nrd, h.il⟩
  obtain ⟨a, cap, e, h2⟩ := h.inp
  refine ⟨a, cap, e, fun h0 => ?_⟩
  obtain ⟨b, q, e1, hR, hr⟩ := h2 h0
  exact ⟨b, q, e1, hR, range_keep hr hk (h.low b hR).2 fun hm => (hn b hm).2 hR⟩
theorem Lfk.keep0 (h : Lfk rd B w y mv d q cv iv L inp n) (hk : Keep [] w w') : Lfk rd B w' y mv d q cv iv L inp n := h.keep hk fun k hk => by cases hk
end
section
variable {vs : List VarT} {body : List ST} {inp : List Int} {B : Nat} {w w' : World} {y : Nat} {fp fp2 : List Nat} {z : Lz}
theorem LV.lt (h : LV vs body inp B w y fp z) : ∀ k ∈ fp, B ≤ k ∧ k < w.heap.size := by
  obtain ⟨x, d, q, cv, iv, rd, fm, rfl, h1, h2, h3⟩ := h
  intro k hk
  simp only [List.mem_cons, List.mem_append] at hk
  rcases hk with rfl | hk | hk
  · exact ⟨h1.ge, h1.blk.lt⟩
  · exact ⟨(h2.lt k hk).1, (h2.lt k hk).2.1⟩
  · exact h1.low k hk
theorem LV.keep (h : LV vs body inp B w y fp z) (hk : Keep fp2 w w') (hn : ∀ k ∈ fp2, k ∉ fp) : LV vs body inp B w' y fp z := by
  obtain ⟨x, d, q, cv, iv, rd, fm, rfl, h1, h2, h3⟩ := h
  refine ⟨x, d, q, cv, iv, rd, fm, rfl, h1.keep hk fun k hm => ⟨fun e => hn k hm (by simp [e]), fun e => hn k hm (by simp [e])⟩, h2.keep hk fun k hm => ⟨fun e => hn k hm (by simp [e]), fun e => hn k hm (by simp [e])⟩, h3⟩
end
/-- The new machine. -/
theorem wake_ret {vs : List VarT} {body : List ST} {inp : List Int} {rd : List Nat} {B : Nat} {w : World} {y d q n : Nat} {mv cv iv pv : Value} {p : Pr} {KW W : List Int} {g : Int} {k mm : Md} (h : Lfk rd B w y mv d q cv iv (insP vs body) inp n) (hn : n = (sumV vs).toNat) (hd : Dk (· ∈ rd) B w d q pv p KW g) (hy : y ∉ d :: q :: obs pv) (he : Enc KW k) (hc : k.cells.length ≤ 48) (hl : KW.length = 112) (hil : inp.length ≤ 1000000) :
    Ret Tryz.prog 27 [.pointer (some ⟨y, 0, none⟩)] w fun r w' => r = .tuple #[] ∧ ∃ fp', LV vs body inp B w' y fp' (wakeZ ⟨⟨mm, k, p⟩, W, KW, g⟩) ∧ Keep [y] w w' ∧ ∀ b ∈ fp', b = y ∨ b ∈ d :: q :: obs pv ∨ b ∈ rd ∨ w.heap.size ≤ b := by
  obtain ⟨ca, ccap, hcv⟩ := h.code.form
  subst hcv
  obtain ⟨ia, icap, hiv, hi2⟩ := h.inp
  subst hiv
  have hyl := h.blk.lt
  have hBw : B ≤ w.heap.size := Nat.le_trans h.ge (Nat.le_of_lt hyl)
  refine ret_of 24 Tryz.func27 rfl rfl (by simp) ?_
  refine rn_draw (fun w' => Keep [] w w') [22] hMix ?_
  have hS : Keep [] w w.drew := (Keep.refl _ _).drew
  generalize w.drew = w1 at *
  refine tk 0 ?_
  refine tk 1 ?_
  refine tk 2 ?_
  refine tk 3 ?_
  refine dr_val 4 (.pointer (some ⟨d, 0, none⟩)) rfl (by decide +kernel) rfl rfl (fun w9 hS9 => val_load1 hT rfl rfl rfl ((h.keep0 hS9).blk.cell rfl)) hS ?_
  refine tk 7 ?_
  refine tk 8 ?_
  refine tk 9 ?_
  refine dr_val 10 (.slice ca (insP vs body).length ccap) rfl (by decide +kernel) rfl rfl (fun w9 hS9 => val_load1 hT rfl rfl rfl ((h.keep0 hS9).blk.cell rfl)) hS ?_
  refine tk 11 ?_
  refine tk 12 ?_
  refine tk 13 ?_
  refine dr_val 14 (.slice ia inp.length icap) rfl (by decide +kernel) rfl rfl (fun w9 hS9 => val_load1 hT rfl rfl rfl ((h.keep0 hS9).blk.cell rfl)) hS ?_
  refine tk 15 ?_
  refine tk 16 ?_
  refine tk 17 ?_
  refine dr_val 18 (.pointer (some ⟨q, 0, none⟩)) rfl (by decide +kernel) rfl rfl (fun w9 hS9 => val_load1 hT rfl rfl rfl ((h.keep0 hS9).blk.cell rfl)) hS ?_
  refine dr_op 5 rfl (by decide +kernel) rfl rfl (opTo_call (fst := []) (cap := []) rfl rfl rfl rfl (by decide +kernel) ((open_ret d w1).mono ?_))
  rintro r w2 ⟨rfl, hs2, hk2⟩
  have hS2 := hS.tr hk2
  refine ⟨fun _ => hS2, ?_⟩
  have hsz1 := hS.size
  have hlt2 := hs2.lt
  refine dr_op 6 rfl (by decide +kernel) rfl rfl (opTo_call (fst := []) (cap := []) rfl rfl rfl rfl (by decide +kernel) (((hd.keep0 hS2).mem hs2).mono ?_))
  rintro r w3 ⟨m, rfl, hm3, hmem, hk3⟩
  have hS3 := hS2.tr hk3
  refine ⟨fun _ => hS3, ?_⟩
  have hsz2 := hk2.size
  have h3 := h.keep0 hS3
  have nr : ∀ {k : Nat}, w.heap.size ≤ k → k ∉ rd := fun {k} hk hm => by
    have := (h.low k hm).2
    omega
  refine dr_op 19 rfl (by decide +kernel) rfl rfl (opTo_call (fst := []) (cap := []) rfl rfl rfl rfl (by decide +kernel) ((Dk.wake (mm := mm) (W := W) (hd.keep0 hS3) (hk3.blk hs2 (by simp)) ⟨by omega, nr hsz1⟩ hmem ⟨by omega, nr (by omega)⟩ he hc hl h3.code h3.inp hil).mono ?_))
  rintro r w4 ⟨x, fm, rfl, hm4, hk4, hf4⟩
  have hS4 := hS3.tr hk4
  have h4 := h.keep0 hS4
  refine ⟨fun _ => hS4, ?_⟩
  have hsz3 := hk3.size
  refine tk 20 ?_
  refine tk 21 ?_
  refine dr_op 22 rfl (by decide +kernel) rfl rfl (opTo_storeN [.pointer (some ⟨x, 0, none⟩)] rfl rfl rfl rfl (by kernel_rfl) h4.blk (by simp [lfC]) (one_v rfl) ?_)
  intro w5 hs5 hk5 hb5
  refine ⟨fun h => absurd (by simp) h, ?_⟩
  refine dr_done (by decide +kernel) ?_
  have hyf : y ∉ fm := fun hm => by
    rcases hf4 y hm with h5 | h5 | h5 | h5
    · exact hy h5
    · omega
    · omega
    · omega
  have h5 : Lfk rd B w5 y (.pointer (some ⟨x, 0, none⟩)) d q (.slice ca (insP vs body).length ccap) (.slice ia inp.length icap) (insP vs body) inp n := by
    have hn' : ∀ k ∈ [y], k ∉ rd := fun k hk hm => h.nrd (by rw [← List.mem_singleton.1 hk]; exact hm)
    refine ⟨hb5, h4.code.keep hk5 fun c hR => ⟨(h4.low c hR).2, fun hm => hn' c hm hR⟩, ?_, h.ge, fun k hk' => ⟨(h4.low k hk').1, Nat.lt_of_lt_of_le (h4.low k hk').2 hk5.size⟩, h.nrd, h.il⟩
    obtain ⟨a, cap, e, h2⟩ := h4.inp
    refine ⟨a, cap, e, fun h0 => ?_⟩
    obtain ⟨b, q, e1, hR, hr⟩ := h2 h0
    exact ⟨b, q, e1, hR, range_keep hr hk5 (h4.low b hR).2 fun hm => hn' b hm hR⟩
  refine au ?_
  refine rn_end Tryz.func27 (.inr (.inl ⟨rfl, rfl⟩)) ⟨rfl, _, ⟨x, d, q, _, _, rd, fm, rfl, hn ▸ h5, hm4.keep hk5 (fun k hk => ?_), hyf⟩, hS4.of0.tr hk5, ?_⟩
  · rw [List.mem_singleton.1 hk]
    exact ⟨h.nrd, hyf⟩
  · intro b hb
    simp only [List.mem_cons, List.mem_append] at hb
    rcases hb with hb | hb | hb
    · exact .inl hb
    · rcases hf4 b hb with h6 | h6 | h6 | h6
      · exact .inr (.inl h6)
      · exact .inr (.inr (.inr (by omega)))
      · exact .inr (.inr (.inr (by omega)))
      · exact .inr (.inr (.inr (by omega)))
    · exact .inr (.inr (.inl hb))
end E
end Go.Proofs.YtmplkogkphmmjafGreat
