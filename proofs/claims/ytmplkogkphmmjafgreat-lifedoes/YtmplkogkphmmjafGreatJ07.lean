/- Several texts in one: BeS2, BeS3, BeS4, BeS5. -/
import Derived.Test.YtmplkogkphmmjafGreatJ04
import Derived.Test.YtmplkogkphmmjafGreatJ06
/- The document's Being: Step, at IAdd, ISub, IMul, ILess, ISame. -/
namespace Go.Proofs.YtmplkogkphmmjafGreat
set_option maxRecDepth 20000
set_option maxHeartbeats 4000000
namespace E
open Go.Proofs

theorem bStep_add {w0 w : World} {b : Nat} {W : List Is} {inp : List Int} {cv iv : Value} {r : Rws} {m k : Md} {p : Pr} (h : Bw w0 w b W inp cv iv r m k p) (hs : m.state = 0) {A B N : Int} (hx : W[m.next]? = some (4, A, B, N)) (hWl : W.length ≤ 1000000) (hst : m.stack.length ≤ 1000) (_ : m.cells.length ≤ 1000) (h2 : 2 ≤ m.stack.length) (q : Bool) :
    Ret Tryz.prog 40 [.pointer (some ⟨b, 0, none⟩), .bool q] w fun v w' => v = .bool true ∧ BwTo w0 w w' b W inp cv iv r (exI inp (4, A, B, N) m p).1 k (exI inp (4, A, B, N) m p).2 := by
  obtain ⟨sv, cl, ks, kc, ov⟩ := r
  have hn : m.next < W.length := (List.getElem?_eq_some_iff.1 hx).1
  obtain ⟨cb, cq, ccap, hcv, hcF, hcr⟩ := h.cd.ins.at hx
  subst hcv
  refine ret_of 307 Tryz.func40 rfl rfl (by simp) ?_
  refine au ?_
  refine pl_val _ rfl rfl (val_load1 hT rfl rfl rfl (h.bk.cell rfl)) ?_
  refine nay ?_
  refine au ?_
  refine rn_draw (fun w' => Keep [] w w') [] hMix ?_
  have hS : Keep [] w w.drew := (Keep.refl _ _).drew
  generalize w.drew = w1 at *
  refine tk 0 ?_
  refine tk 1 ?_
  refine tk 2 ?_
  refine dr_val 3 (.slice (some ⟨cb, cq, none⟩) W.length ccap) rfl (by decide +kernel) rfl rfl (fun w9 hS9 => val_load1 hT rfl rfl rfl ((hS9.blk h.bk (by simp)).cell rfl)) hS ?_
  refine tk 4 ?_
  refine tk 5 ?_
  refine tk 6 ?_
  refine tk 7 ?_
  refine dr_val 8 (.int .i64 (m.next : Nat)) rfl (by decide +kernel) rfl rfl (fun w9 hS9 => val_load1 hT rfl rfl rfl ((hS9.blk h.bk (by simp)).cell rfl)) hS ?_
  refine dr_any 9 _ rfl (by decide +kernel) rfl rfl (fun w => val_index m.next hT rfl rfl rfl rfl rfl hn w) ?_
  refine dr_val 10 (.agg (iC (4, A, B, N)).toArray) rfl (by decide +kernel) rfl rfl (fun w9 hS9 => val_load (iC (4, A, B, N)) hT rfl rfl rfl (range_keep hcr hS9 hcF.2 (by simp))) hS ?_
  refine dr_op 11 rfl (by decide +kernel) rfl rfl (opTo_allocN _ rfl zero_ri ?_)
  intro w2 x5 hx5 hs2 hk2 hb2
  refine ⟨fun _ => hS.tr hk2, ?_⟩
  refine dr_op 12 rfl (by decide +kernel) rfl rfl (opTo_storeN (iC (4, A, B, N)) rfl rfl rfl rfl size_ri hb2 (by simp [iC]) (iC_one _) ?_)
  intro w3 hs3 hk3 hb3
  rw [splice_whole (by rfl)] at hb3
  have hk03 : Keep [] w w3 := hS.tr (hk2.trB hk3 (by omega))
  refine ⟨fun _ => hk03, ?_⟩
  refine dr_done (by decide +kernel) ?_
  have h3 := h.keep0 hk03
  have hn3 : x5 ∉ fpB b (.slice (some ⟨cb, cq, none⟩) W.length ccap) ⟨sv, cl, ks, kc, ov⟩ := fun hm => by
    have := (h.own x5 hm).2
    have := hS.size
    omega
  refine au ?_
  refine pl_val _ rfl rfl (val_load1 hT rfl rfl rfl (h3.bk.cell rfl)) ?_
  refine pl_num (((m.next + 1 : Nat) : Int)) rfl rfl rfl rfl rfl (by simp only [ariP]; omega) ?_
  refine au ?_
  refine pl_op rfl rfl (opTo_storeN [.int .i64 ((m.next + 1 : Nat) : Int)] rfl rfl rfl rfl size_in h3.bk (by simp [beC, mC]) (one_in _) ?_)
  intro w4 hs4 hk4 hb4
  have t4 := h3.put (m' := { m with next := m.next + 1 }) (p' := p) hk4 hb4 rfl rfl rfl
  obtain ⟨hx4, hn4⟩ := t4.blk hn3 hb3
  have t := BwT.late hk03 t4
  have h4 := t.1
  have hb4 := h4.bk
  clear t4 hs4 hk4 hk3 hs3 hb3 h3 hb2 hk2 hs2 hS hcr hn3
  refine au ?_
  refine pl_val _ rfl rfl (val_load1 hT rfl rfl rfl (hx4.cell rfl)) ?_
  refine aub ?_
  refine pl_op rfl rfl (opTo_call (fst := []) (cap := []) rfl rfl rfl rfl (by decide +kernel) ((bPop_ret h4 (by show 0 < m.stack.length; omega) hst (topS m.stack) rfl).mono ?_))
  rintro v w5 ⟨rfl, s', t5⟩
  have tt5 := t.seq t5
  have h5 := tt5.1
  obtain ⟨hx5', hn5⟩ := t5.blk hn4 hx4
  have hd1 : m.stack.dropLast.length ≤ 1000 := by simp; omega
  have hd2 : m.stack.dropLast.dropLast.length ≤ 1000 := by simp; omega
  refine au ?_
  refine pl_op rfl rfl (opTo_call (fst := []) (cap := []) rfl rfl rfl rfl (by decide +kernel) ((bPop_ret h5 (by show 0 < m.stack.dropLast.length; simp; omega) hd1 (topS m.stack.dropLast) rfl).mono ?_))
  rintro v w6 ⟨rfl, s2, t6⟩
  have tt6 := tt5.seq t6
  have h6 := tt6.1
  obtain ⟨hx6, hn6⟩ := t6.blk hn5 hx5'
  clear hb4 hx4 hx5' t5 t6 t tt5
  refine au ?_
  refine pl_val _ rfl rfl (val_load1 hT rfl rfl rfl (hx6.cell rfl)) ?_
  refine aub ?_
  refine pl_val _ rfl rfl (val_int _ _ _ _ rfl rfl rfl (by rfl) _) ?_
  refine pl_op rfl rfl (opTo_call (fst := []) (cap := []) rfl rfl rfl rfl (by decide +kernel) ((bPush_ret h6 hd2 (IntKind.i64.wrap (topS m.stack.dropLast + topS m.stack))).mono ?_))
  rintro v w7 ⟨rfl, s3, t7⟩
  refine au ?_
  have e : exI inp (4, A, B, N) m p = ({ m with next := m.next + 1, stack := m.stack.dropLast.dropLast ++ [IntKind.i64.wrap (topS m.stack.dropLast + topS m.stack)] }, p) := rfl
  rw [e]
  exact rn_ret Tryz.func40 (.inl ⟨_, rfl, rfl⟩) ⟨rfl, _, tt6.seq t7⟩

theorem bStep_sub {w0 w : World} {b : Nat} {W : List Is} {inp : List Int} {cv iv : Value} {r : Rws} {m k : Md} {p : Pr} (h : Bw w0 w b W inp cv iv r m k p) (hs : m.state = 0) {A B N : Int} (hx : W[m.next]? = some (5, A, B, N)) (hWl : W.length ≤ 1000000) (hst : m.stack.length ≤ 1000) (_ : m.cells.length ≤ 1000) (h2 : 2 ≤ m.stack.length) (q : Bool) :
    Ret Tryz.prog 40 [.pointer (some ⟨b, 0, none⟩), .bool q] w fun v w' => v = .bool true ∧ BwTo w0 w w' b W inp cv iv r (exI inp (5, A, B, N) m p).1 k (exI inp (5, A, B, N) m p).2 := by
  obtain ⟨sv, cl, ks, kc, ov⟩ := r
  have hn : m.next < W.length := (List.getElem?_eq_some_iff.1 hx).1
  obtain ⟨cb, cq, ccap, hcv, hcF, hcr⟩ := h.cd.ins.at hx
  subst hcv
  refine ret_of 307 Tryz.func40 rfl rfl (by simp) ?_
  refine au ?_
  refine pl_val _ rfl rfl (val_load1 hT rfl rfl rfl (h.bk.cell rfl)) ?_
  refine nay ?_
  refine au ?_
  refine rn_draw (fun w' => Keep [] w w') [] hMix ?_
  have hS : Keep [] w w.drew := (Keep.refl _ _).drew
  generalize w.drew = w1 at *
  refine tk 0 ?_
  refine tk 1 ?_
  refine tk 2 ?_
  refine dr_val 3 (.slice (some ⟨cb, cq, none⟩) W.length ccap) rfl (by decide +kernel) rfl rfl (fun w9 hS9 => val_load1 hT rfl rfl rfl ((hS9.blk h.bk (by simp)).cell rfl)) hS ?_
  refine tk 4 ?_
  refine tk 5 ?_
  refine tk 6 ?_
  refine tk 7 ?_
  refine dr_val 8 (.int .i64 (m.next : Nat)) rfl (by decide +kernel) rfl rfl (fun w9 hS9 => val_load1 hT rfl rfl rfl ((hS9.blk h.bk (by simp)).cell rfl)) hS ?_
  refine dr_any 9 _ rfl (by decide +kernel) rfl rfl (fun w => val_index m.next hT rfl rfl rfl rfl rfl hn w) ?_
  refine dr_val 10 (.agg (iC (5, A, B, N)).toArray) rfl (by decide +kernel) rfl rfl (fun w9 hS9 => val_load (iC (5, A, B, N)) hT rfl rfl rfl (range_keep hcr hS9 hcF.2 (by simp))) hS ?_
  refine dr_op 11 rfl (by decide +kernel) rfl rfl (opTo_allocN _ rfl zero_ri ?_)
  intro w2 x5 hx5 hs2 hk2 hb2
  refine ⟨fun _ => hS.tr hk2, ?_⟩
  refine dr_op 12 rfl (by decide +kernel) rfl rfl (opTo_storeN (iC (5, A, B, N)) rfl rfl rfl rfl size_ri hb2 (by simp [iC]) (iC_one _) ?_)
  intro w3 hs3 hk3 hb3
  rw [splice_whole (by rfl)] at hb3
  have hk03 : Keep [] w w3 := hS.tr (hk2.trB hk3 (by omega))
  refine ⟨fun _ => hk03, ?_⟩
  refine dr_done (by decide +kernel) ?_
  have h3 := h.keep0 hk03
  have hn3 : x5 ∉ fpB b (.slice (some ⟨cb, cq, none⟩) W.length ccap) ⟨sv, cl, ks, kc, ov⟩ := fun hm => by
    have := (h.own x5 hm).2
    have := hS.size
    omega
  refine au ?_
  refine pl_val _ rfl rfl (val_load1 hT rfl rfl rfl (h3.bk.cell rfl)) ?_
  refine pl_num (((m.next + 1 : Nat) : Int)) rfl rfl rfl rfl rfl (by simp only [ariP]; omega) ?_
  refine au ?_
  refine pl_op rfl rfl (opTo_storeN [.int .i64 ((m.next + 1 : Nat) : Int)] rfl rfl rfl rfl size_in h3.bk (by simp [beC, mC]) (one_in _) ?_)
  intro w4 hs4 hk4 hb4
  have t4 := h3.put (m' := { m with next := m.next + 1 }) (p' := p) hk4 hb4 rfl rfl rfl
  obtain ⟨hx4, hn4⟩ := t4.blk hn3 hb3
  have t := BwT.late hk03 t4
  have h4 := t.1
  have hb4 := h4.bk
  clear t4 hs4 hk4 hk3 hs3 hb3 h3 hb2 hk2 hs2 hS hcr hn3
  refine au ?_
  refine pl_val _ rfl rfl (val_load1 hT rfl rfl rfl (hx4.cell rfl)) ?_
  refine aub ?_
  refine pl_op rfl rfl (opTo_call (fst := []) (cap := []) rfl rfl rfl rfl (by decide +kernel) ((bPop_ret h4 (by show 0 < m.stack.length; omega) hst (topS m.stack) rfl).mono ?_))
  rintro v w5 ⟨rfl, s', t5⟩
  have tt5 := t.seq t5
  have h5 := tt5.1
  obtain ⟨hx5', hn5⟩ := t5.blk hn4 hx4
  have hd1 : m.stack.dropLast.length ≤ 1000 := by simp; omega
  have hd2 : m.stack.dropLast.dropLast.length ≤ 1000 := by simp; omega
  refine au ?_
  refine pl_op rfl rfl (opTo_call (fst := []) (cap := []) rfl rfl rfl rfl (by decide +kernel) ((bPop_ret h5 (by show 0 < m.stack.dropLast.length; simp; omega) hd1 (topS m.stack.dropLast) rfl).mono ?_))
  rintro v w6 ⟨rfl, s2, t6⟩
  have tt6 := tt5.seq t6
  have h6 := tt6.1
  obtain ⟨hx6, hn6⟩ := t6.blk hn5 hx5'
  clear hb4 hx4 hx5' t5 t6 t tt5
  refine au ?_
  refine pl_val _ rfl rfl (val_load1 hT rfl rfl rfl (hx6.cell rfl)) ?_
  refine aub ?_
  refine pl_val _ rfl rfl (val_int _ _ _ _ rfl rfl rfl (by rfl) _) ?_
  refine pl_op rfl rfl (opTo_call (fst := []) (cap := []) rfl rfl rfl rfl (by decide +kernel) ((bPush_ret h6 hd2 (IntKind.i64.wrap (topS m.stack.dropLast - topS m.stack))).mono ?_))
  rintro v w7 ⟨rfl, s3, t7⟩
  refine au ?_
  have e : exI inp (5, A, B, N) m p = ({ m with next := m.next + 1, stack := m.stack.dropLast.dropLast ++ [IntKind.i64.wrap (topS m.stack.dropLast - topS m.stack)] }, p) := rfl
  rw [e]
  exact rn_ret Tryz.func40 (.inl ⟨_, rfl, rfl⟩) ⟨rfl, _, tt6.seq t7⟩

theorem bStep_mul {w0 w : World} {b : Nat} {W : List Is} {inp : List Int} {cv iv : Value} {r : Rws} {m k : Md} {p : Pr} (h : Bw w0 w b W inp cv iv r m k p) (hs : m.state = 0) {A B N : Int} (hx : W[m.next]? = some (6, A, B, N)) (hWl : W.length ≤ 1000000) (hst : m.stack.length ≤ 1000) (_ : m.cells.length ≤ 1000) (h2 : 2 ≤ m.stack.length) (q : Bool) :
    Ret Tryz.prog 40 [.pointer (some ⟨b, 0, none⟩), .bool q] w fun v w' => v = .bool true ∧ BwTo w0 w w' b W inp cv iv r (exI inp (6, A, B, N) m p).1 k (exI inp (6, A, B, N) m p).2 := by
  obtain ⟨sv, cl, ks, kc, ov⟩ := r
  have hn : m.next < W.length := (List.getElem?_eq_some_iff.1 hx).1
  obtain ⟨cb, cq, ccap, hcv, hcF, hcr⟩ := h.cd.ins.at hx
  subst hcv
  refine ret_of 307 Tryz.func40 rfl rfl (by simp) ?_
  refine au ?_
  refine pl_val _ rfl rfl (val_load1 hT rfl rfl rfl (h.bk.cell rfl)) ?_
  refine nay ?_
  refine au ?_
  refine rn_draw (fun w' => Keep [] w w') [] hMix ?_
  have hS : Keep [] w w.drew := (Keep.refl _ _).drew
  generalize w.drew = w1 at *
  refine tk 0 ?_
  refine tk 1 ?_
  refine tk 2 ?_
  refine dr_val 3 (.slice (some ⟨cb, cq, none⟩) W.length ccap) rfl (by decide +kernel) rfl rfl (fun w9 hS9 => val_load1 hT rfl rfl rfl ((hS9.blk h.bk (by simp)).cell rfl)) hS ?_
  refine tk 4 ?_
  refine tk 5 ?_
  refine tk 6 ?_
  refine tk 7 ?_
  refine dr_val 8 (.int .i64 (m.next : Nat)) rfl (by decide +kernel) rfl rfl (fun w9 hS9 => val_load1 hT rfl rfl rfl ((hS9.blk h.bk (by simp)).cell rfl)) hS ?_
  refine dr_any 9 _ rfl (by decide +kernel) rfl rfl (fun w => val_index m.next hT rfl rfl rfl rfl rfl hn w) ?_
  refine dr_val 10 (.agg (iC (6, A, B, N)).toArray) rfl (by decide +kernel) rfl rfl (fun w9 hS9 => val_load (iC (6, A, B, N)) hT rfl rfl rfl (range_keep hcr hS9 hcF.2 (by simp))) hS ?_
  refine dr_op 11 rfl (by decide +kernel) rfl rfl (opTo_allocN _ rfl zero_ri ?_)
  intro w2 x5 hx5 hs2 hk2 hb2
  refine ⟨fun _ => hS.tr hk2, ?_⟩
  refine dr_op 12 rfl (by decide +kernel) rfl rfl (opTo_storeN (iC (6, A, B, N)) rfl rfl rfl rfl size_ri hb2 (by simp [iC]) (iC_one _) ?_)
  intro w3 hs3 hk3 hb3
  rw [splice_whole (by rfl)] at hb3
  have hk03 : Keep [] w w3 := hS.tr (hk2.trB hk3 (by omega))
  refine ⟨fun _ => hk03, ?_⟩
  refine dr_done (by decide +kernel) ?_
  have h3 := h.keep0 hk03
  have hn3 : x5 ∉ fpB b (.slice (some ⟨cb, cq, none⟩) W.length ccap) ⟨sv, cl, ks, kc, ov⟩ := fun hm => by
    have := (h.own x5 hm).2
    have := hS.size
    omega
  refine au ?_
  refine pl_val _ rfl rfl (val_load1 hT rfl rfl rfl (h3.bk.cell rfl)) ?_
  refine pl_num (((m.next + 1 : Nat) : Int)) rfl rfl rfl rfl rfl (by simp only [ariP]; omega) ?_
  refine au ?_
  refine pl_op rfl rfl (opTo_storeN [.int .i64 ((m.next + 1 : Nat) : Int)] rfl rfl rfl rfl size_in h3.bk (by simp [beC, mC]) (one_in _) ?_)
  intro w4 hs4 hk4 hb4
  have t4 := h3.put (m' := { m with next := m.next + 1 }) (p' := p) hk4 hb4 rfl rfl rfl
  obtain ⟨hx4, hn4⟩ := t4.blk hn3 hb3
  have t := BwT.late hk03 t4
  have h4 := t.1
  have hb4 := h4.bk
  clear t4 hs4 hk4 hk3 hs3 hb3 h3 hb2 hk2 hs2 hS hcr hn3
  refine au ?_
  refine pl_val _ rfl rfl (val_load1 hT rfl rfl rfl (hx4.cell rfl)) ?_
  refine aub ?_
  refine pl_op rfl rfl (opTo_call (fst := []) (cap := []) rfl rfl rfl rfl (by decide +kernel) ((bPop_ret h4 (by show 0 < m.stack.length; omega) hst (topS m.stack) rfl).mono ?_))
  rintro v w5 ⟨rfl, s', t5⟩
  have tt5 := t.seq t5
  have h5 := tt5.1
  obtain ⟨hx5', hn5⟩ := t5.blk hn4 hx4
  have hd1 : m.stack.dropLast.length ≤ 1000 := by simp; omega
  have hd2 : m.stack.dropLast.dropLast.length ≤ 1000 := by simp; omega
  refine au ?_
  refine pl_op rfl rfl (opTo_call (fst := []) (cap := []) rfl rfl rfl rfl (by decide +kernel) ((bPop_ret h5 (by show 0 < m.stack.dropLast.length; simp; omega) hd1 (topS m.stack.dropLast) rfl).mono ?_))
  rintro v w6 ⟨rfl, s2, t6⟩
  have tt6 := tt5.seq t6
  have h6 := tt6.1
  obtain ⟨hx6, hn6⟩ := t6.blk hn5 hx5'
  clear hb4 hx4 hx5' t5 t6 t tt5
  refine au ?_
  refine pl_val _ rfl rfl (val_load1 hT rfl rfl rfl (hx6.cell rfl)) ?_
  refine aub ?_
  refine pl_val _ rfl rfl (val_int _ _ _ _ rfl rfl rfl (by rfl) _) ?_
  refine pl_op rfl rfl (opTo_call (fst := []) (cap := []) rfl rfl rfl rfl (by decide +kernel) ((bPush_ret h6 hd2 (IntKind.i64.wrap (topS m.stack.dropLast * topS m.stack))).mono ?_))
  rintro v w7 ⟨rfl, s3, t7⟩
  refine au ?_
  have e : exI inp (6, A, B, N) m p = ({ m with next := m.next + 1, stack := m.stack.dropLast.dropLast ++ [IntKind.i64.wrap (topS m.stack.dropLast * topS m.stack)] }, p) := rfl
  rw [e]
  exact rn_ret Tryz.func40 (.inl ⟨_, rfl, rfl⟩) ⟨rfl, _, tt6.seq t7⟩

theorem bStep_less {w0 w : World} {b : Nat} {W : List Is} {inp : List Int} {cv iv : Value} {r : Rws} {m k : Md} {p : Pr} (h : Bw w0 w b W inp cv iv r m k p) (hs : m.state = 0) {A B N : Int} (hx : W[m.next]? = some (7, A, B, N)) (hWl : W.length ≤ 1000000) (hst : m.stack.length ≤ 1000) (_ : m.cells.length ≤ 1000) (h2 : 2 ≤ m.stack.length) (q : Bool) :
    Ret Tryz.prog 40 [.pointer (some ⟨b, 0, none⟩), .bool q] w fun v w' => v = .bool true ∧ BwTo w0 w w' b W inp cv iv r (exI inp (7, A, B, N) m p).1 k (exI inp (7, A, B, N) m p).2 := by
  obtain ⟨sv, cl, ks, kc, ov⟩ := r
  have hn : m.next < W.length := (List.getElem?_eq_some_iff.1 hx).1
  obtain ⟨cb, cq, ccap, hcv, hcF, hcr⟩ := h.cd.ins.at hx
  subst hcv
  refine ret_of 307 Tryz.func40 rfl rfl (by simp) ?_
  refine au ?_
  refine pl_val _ rfl rfl (val_load1 hT rfl rfl rfl (h.bk.cell rfl)) ?_
  refine nay ?_
  refine au ?_
  refine rn_draw (fun w' => Keep [] w w') [] hMix ?_
  have hS : Keep [] w w.drew := (Keep.refl _ _).drew
  generalize w.drew = w1 at *
  refine tk 0 ?_
  refine tk 1 ?_
  refine tk 2 ?_
  refine dr_val 3 (.slice (some ⟨cb, cq, none⟩) W.length ccap) rfl (by decide +kernel) rfl rfl (fun w9 hS9 => val_load1 hT rfl rfl rfl ((hS9.blk h.bk (by simp)).cell rfl)) hS ?_
  refine tk 4 ?_
  refine tk 5 ?_
  refine tk 6 ?_
  refine tk 7 ?_
  refine dr_val 8 (.int .i64 (m.next : Nat)) rfl (by decide +kernel) rfl rfl (fun w9 hS9 => val_load1 hT rfl rfl rfl ((hS9.blk h.bk (by simp)).cell rfl)) hS ?_
  refine dr_any 9 _ rfl (by decide +kernel) rfl rfl (fun w => val_index m.next hT rfl rfl rfl rfl rfl hn w) ?_
  refine dr_val 10 (.agg (iC (7, A, B, N)).toArray) rfl (by decide +kernel) rfl rfl (fun w9 hS9 => val_load (iC (7, A, B, N)) hT rfl rfl rfl (range_keep hcr hS9 hcF.2 (by simp))) hS ?_
  refine dr_op 11 rfl (by decide +kernel) rfl rfl (opTo_allocN _ rfl zero_ri ?_)
  intro w2 x5 hx5 hs2 hk2 hb2
  refine ⟨fun _ => hS.tr hk2, ?_⟩
  refine dr_op 12 rfl (by decide +kernel) rfl rfl (opTo_storeN (iC (7, A, B, N)) rfl rfl rfl rfl size_ri hb2 (by simp [iC]) (iC_one _) ?_)
  intro w3 hs3 hk3 hb3
  rw [splice_whole (by rfl)] at hb3
  have hk03 : Keep [] w w3 := hS.tr (hk2.trB hk3 (by omega))
  refine ⟨fun _ => hk03, ?_⟩
  refine dr_done (by decide +kernel) ?_
  have h3 := h.keep0 hk03
  have hn3 : x5 ∉ fpB b (.slice (some ⟨cb, cq, none⟩) W.length ccap) ⟨sv, cl, ks, kc, ov⟩ := fun hm => by
    have := (h.own x5 hm).2
    have := hS.size
    omega
  refine au ?_
  refine pl_val _ rfl rfl (val_load1 hT rfl rfl rfl (h3.bk.cell rfl)) ?_
  refine pl_num (((m.next + 1 : Nat) : Int)) rfl rfl rfl rfl rfl (by simp only [ariP]; omega) ?_
  refine au ?_
  refine pl_op rfl rfl (opTo_storeN [.int .i64 ((m.next + 1 : Nat) : Int)] rfl rfl rfl rfl size_in h3.bk (by simp [beC, mC]) (one_in _) ?_)
  intro w4 hs4 hk4 hb4
  have t4 := h3.put (m' := { m with next := m.next + 1 }) (p' := p) hk4 hb4 rfl rfl rfl
  obtain ⟨hx4, hn4⟩ := t4.blk hn3 hb3
  have t := BwT.late hk03 t4
  have h4 := t.1
  have hb4 := h4.bk
  clear t4 hs4 hk4 hk3 hs3 hb3 h3 hb2 hk2 hs2 hS hcr hn3
  refine au ?_
  refine pl_val _ rfl rfl (val_load1 hT rfl rfl rfl (hx4.cell rfl)) ?_
  refine aub ?_
  refine pl_op rfl rfl (opTo_call (fst := []) (cap := []) rfl rfl rfl rfl (by decide +kernel) ((bPop_ret h4 (by show 0 < m.stack.length; omega) hst (topS m.stack) rfl).mono ?_))
  rintro v w5 ⟨rfl, s', t5⟩
  have tt5 := t.seq t5
  have h5 := tt5.1
  obtain ⟨hx5', hn5⟩ := t5.blk hn4 hx4
  have hd1 : m.stack.dropLast.length ≤ 1000 := by simp; omega
  have hd2 : m.stack.dropLast.dropLast.length ≤ 1000 := by simp; omega
  refine au ?_
  refine pl_op rfl rfl (opTo_call (fst := []) (cap := []) rfl rfl rfl rfl (by decide +kernel) ((bPop_ret h5 (by show 0 < m.stack.dropLast.length; simp; omega) hd1 (topS m.stack.dropLast) rfl).mono ?_))
  rintro v w6 ⟨rfl, s2, t6⟩
  have tt6 := tt5.seq t6
  have h6 := tt6.1
  obtain ⟨hx6, hn6⟩ := t6.blk hn5 hx5'
  clear hb4 hx4 hx5' t5 t6 t tt5
  refine au ?_
  refine pl_val _ rfl rfl (val_load1 hT rfl rfl rfl (hx6.cell rfl)) ?_
  refine aub ?_
  refine pl_val _ rfl rfl (val_int _ _ _ _ rfl rfl rfl (by rfl) _) ?_
  refine pl_op rfl rfl (opTo_call (fst := []) (cap := []) rfl rfl rfl rfl (by decide +kernel) ((bBit_ret (decide (topS m.stack.dropLast < topS m.stack)) w6).mono ?_))
  rintro v w6' ⟨rfl, hww⟩
  rw [hww]
  refine pl_op rfl rfl (opTo_call (fst := []) (cap := []) rfl rfl rfl rfl (by decide +kernel) ((bPush_ret h6 hd2 (bitI (decide (topS m.stack.dropLast < topS m.stack)))).mono ?_))
  rintro v w7 ⟨rfl, s3, t7⟩
  refine au ?_
  have e : exI inp (7, A, B, N) m p = ({ m with next := m.next + 1, stack := m.stack.dropLast.dropLast ++ [bitI (decide (topS m.stack.dropLast < topS m.stack))] }, p) := rfl
  rw [e]
  exact rn_ret Tryz.func40 (.inl ⟨_, rfl, rfl⟩) ⟨rfl, _, tt6.seq t7⟩

theorem bStep_same {w0 w : World} {b : Nat} {W : List Is} {inp : List Int} {cv iv : Value} {r : Rws} {m k : Md} {p : Pr} (h : Bw w0 w b W inp cv iv r m k p) (hs : m.state = 0) {A B N : Int} (hx : W[m.next]? = some (8, A, B, N)) (hWl : W.length ≤ 1000000) (hst : m.stack.length ≤ 1000) (_ : m.cells.length ≤ 1000) (h2 : 2 ≤ m.stack.length) (q : Bool) :
    Ret Tryz.prog 40 [.pointer (some ⟨b, 0, none⟩), .bool q] w fun v w' => v = .bool true ∧ BwTo w0 w w' b W inp cv iv r (exI inp (8, A, B, N) m p).1 k (exI inp (8, A, B, N) m p).2 := by
  obtain ⟨sv, cl, ks, kc, ov⟩ := r
  have hn : m.next < W.length := (List.getElem?_eq_some_iff.1 hx).1
  obtain ⟨cb, cq, ccap, hcv, hcF, hcr⟩ := h.cd.ins.at hx
  subst hcv
  refine ret_of 307 Tryz.func40 rfl rfl (by simp) ?_
  refine au ?_
  refine pl_val _ rfl rfl (val_load1 hT rfl rfl rfl (h.bk.cell rfl)) ?_
  refine nay ?_
  refine au ?_
  refine rn_draw (fun w' => Keep [] w w') [] hMix ?_
  have hS : Keep [] w w.drew := (Keep.refl _ _).drew
  generalize w.drew = w1 at *
  refine tk 0 ?_
  refine tk 1 ?_
  refine tk 2 ?_
  refine dr_val 3 (.slice (some ⟨cb, cq, none⟩) W.length ccap) rfl (by decide +kernel) rfl rfl (fun w9 hS9 => val_load1 hT rfl rfl rfl ((hS9.blk h.bk (by simp)).cell rfl)) hS ?_
  refine tk 4 ?_
  refine tk 5 ?_
  refine tk 6 ?_
  refine tk 7 ?_
  refine dr_val 8 (.int .i64 (m.next : Nat)) rfl (by decide +kernel) rfl rfl (fun w9 hS9 => val_load1 hT rfl rfl rfl ((hS9.blk h.bk (by simp)).cell rfl)) hS ?_
  refine dr_any 9 _ rfl (by decide +kernel) rfl rfl (fun w => val_index m.next hT rfl rfl rfl rfl rfl hn w) ?_
  refine dr_val 10 (.agg (iC (8, A, B, N)).toArray) rfl (by decide +kernel) rfl rfl (fun w9 hS9 => val_load (iC (8, A, B, N)) hT rfl rfl rfl (range_keep hcr hS9 hcF.2 (by simp))) hS ?_
  refine dr_op 11 rfl (by decide +kernel) rfl rfl (opTo_allocN _ rfl zero_ri ?_)
  intro w2 x5 hx5 hs2 hk2 hb2
  refine ⟨fun _ => hS.tr hk2, ?_⟩
  refine dr_op 12 rfl (by decide +kernel) rfl rfl (opTo_storeN (iC (8, A, B, N)) rfl rfl rfl rfl size_ri hb2 (by simp [iC]) (iC_one _) ?_)
  intro w3 hs3 hk3 hb3
  rw [splice_whole (by rfl)] at hb3
  have hk03 : Keep [] w w3 := hS.tr (hk2.trB hk3 (by omega))
  refine ⟨fun _ => hk03, ?_⟩
  refine dr_done (by decide +kernel) ?_
  have h3 := h.keep0 hk03
  have hn3 : x5 ∉ fpB b (.slice (some ⟨cb, cq, none⟩) W.length ccap) ⟨sv, cl, ks, kc, ov⟩ := fun hm => by
    have := (h.own x5 hm).2
    have := hS.size
    omega
  refine au ?_
  refine pl_val _ rfl rfl (val_load1 hT rfl rfl rfl (h3.bk.cell rfl)) ?_
  refine pl_num (((m.next + 1 : Nat) : Int)) rfl rfl rfl rfl rfl (by simp only [ariP]; omega) ?_
  refine au ?_
  refine pl_op rfl rfl (opTo_storeN [.int .i64 ((m.next + 1 : Nat) : Int)] rfl rfl rfl rfl size_in h3.bk (by simp [beC, mC]) (one_in _) ?_)
  intro w4 hs4 hk4 hb4
  have t4 := h3.put (m' := { m with next := m.next + 1 }) (p' := p) hk4 hb4 rfl rfl rfl
  obtain ⟨hx4, hn4⟩ := t4.blk hn3 hb3
  have t := BwT.late hk03 t4
  have h4 := t.1
  have hb4 := h4.bk
  clear t4 hs4 hk4 hk3 hs3 hb3 h3 hb2 hk2 hs2 hS hcr hn3
  refine au ?_
  refine pl_val _ rfl rfl (val_load1 hT rfl rfl rfl (hx4.cell rfl)) ?_
  refine aub ?_
  refine pl_op rfl rfl (opTo_call (fst := []) (cap := []) rfl rfl rfl rfl (by decide +kernel) ((bPop_ret h4 (by show 0 < m.stack.length; omega) hst (topS m.stack) rfl).mono ?_))
  rintro v w5 ⟨rfl, s', t5⟩
  have tt5 := t.seq t5
  have h5 := tt5.1
  obtain ⟨hx5', hn5⟩ := t5.blk hn4 hx4
  have hd1 : m.stack.dropLast.length ≤ 1000 := by simp; omega
  have hd2 : m.stack.dropLast.dropLast.length ≤ 1000 := by simp; omega
  refine au ?_
  refine pl_op rfl rfl (opTo_call (fst := []) (cap := []) rfl rfl rfl rfl (by decide +kernel) ((bPop_ret h5 (by show 0 < m.stack.dropLast.length; simp; omega) hd1 (topS m.stack.dropLast) rfl).mono ?_))
  rintro v w6 ⟨rfl, s2, t6⟩
  have tt6 := tt5.seq t6
  have h6 := tt6.1
  obtain ⟨hx6, hn6⟩ := t6.blk hn5 hx5'
  clear hb4 hx4 hx5' t5 t6 t tt5
  refine au ?_
  refine pl_val _ rfl rfl (val_load1 hT rfl rfl rfl (hx6.cell rfl)) ?_
  refine aub ?_
  refine pl_val _ rfl rfl (val_int _ _ _ _ rfl rfl rfl (by rfl) _) ?_
  refine pl_op rfl rfl (opTo_call (fst := []) (cap := []) rfl rfl rfl rfl (by decide +kernel) ((bBit_ret (topS m.stack.dropLast == topS m.stack) w6).mono ?_))
  rintro v w6' ⟨rfl, hww⟩
  rw [hww]
  refine pl_op rfl rfl (opTo_call (fst := []) (cap := []) rfl rfl rfl rfl (by decide +kernel) ((bPush_ret h6 hd2 (bitI (topS m.stack.dropLast == topS m.stack))).mono ?_))
  rintro v w7 ⟨rfl, s3, t7⟩
  refine au ?_
  have e : exI inp (8, A, B, N) m p = ({ m with next := m.next + 1, stack := m.stack.dropLast.dropLast ++ [bitI (topS m.stack.dropLast == topS m.stack)] }, p) := rfl
  rw [e]
  exact rn_ret Tryz.func40 (.inl ⟨_, rfl, rfl⟩) ⟨rfl, _, tt6.seq t7⟩

end E
end Go.Proofs.YtmplkogkphmmjafGreat

/- The document's Being: Step, at ISet, IPut. -/
namespace Go.Proofs.YtmplkogkphmmjafGreat
set_option maxRecDepth 20000
set_option maxHeartbeats 4000000
namespace E
open Go.Proofs

theorem bStep_set {w0 w : World} {b : Nat} {W : List Is} {inp : List Int} {cv iv : Value} {r : Rws} {m k : Md} {p : Pr} (h : Bw w0 w b W inp cv iv r m k p) (hs : m.state = 0) {A B N : Int} (hx : W[m.next]? = some (9, A, B, N)) (hWl : W.length ≤ 1000000) (hst : m.stack.length ≤ 1000) (_ : m.cells.length ≤ 1000) (h1 : 1 ≤ m.stack.length) (hA0 : 0 ≤ A) (hA : A < (m.cells.length : Int)) (q : Bool) :
    Ret Tryz.prog 40 [.pointer (some ⟨b, 0, none⟩), .bool q] w fun v w' => v = .bool true ∧ BwTo w0 w w' b W inp cv iv r (exI inp (9, A, B, N) m p).1 k (exI inp (9, A, B, N) m p).2 := by
  obtain ⟨a, rfl⟩ : ∃ a : Nat, A = (a : Nat) := ⟨A.toNat, by omega⟩
  obtain ⟨sv, cl, ks, kc, ov⟩ := r
  have hn : m.next < W.length := (List.getElem?_eq_some_iff.1 hx).1
  obtain ⟨cb, cq, ccap, hcv, hcF, hcr⟩ := h.cd.ins.at hx
  subst hcv
  refine ret_of 307 Tryz.func40 rfl rfl (by simp) ?_
  refine au ?_
  refine pl_val _ rfl rfl (val_load1 hT rfl rfl rfl (h.bk.cell rfl)) ?_
  refine nay ?_
  refine au ?_
  refine rn_draw (fun w' => Keep [] w w') [] hMix ?_
  have hS : Keep [] w w.drew := (Keep.refl _ _).drew
  generalize w.drew = w1 at *
  refine tk 0 ?_
  refine tk 1 ?_
  refine tk 2 ?_
  refine dr_val 3 (.slice (some ⟨cb, cq, none⟩) W.length ccap) rfl (by decide +kernel) rfl rfl (fun w9 hS9 => val_load1 hT rfl rfl rfl ((hS9.blk h.bk (by simp)).cell rfl)) hS ?_
  refine tk 4 ?_
  refine tk 5 ?_
  refine tk 6 ?_
  refine tk 7 ?_
  refine dr_val 8 (.int .i64 (m.next : Nat)) rfl (by decide +kernel) rfl rfl (fun w9 hS9 => val_load1 hT rfl rfl rfl ((hS9.blk h.bk (by simp)).cell rfl)) hS ?_
  refine dr_any 9 _ rfl (by decide +kernel) rfl rfl (fun w => val_index m.next hT rfl rfl rfl rfl rfl hn w) ?_
  refine dr_val 10 (.agg (iC (9, ((a : Nat) : Int), B, N)).toArray) rfl (by decide +kernel) rfl rfl (fun w9 hS9 => val_load (iC (9, ((a : Nat) : Int), B, N)) hT rfl rfl rfl (range_keep hcr hS9 hcF.2 (by simp))) hS ?_
  refine dr_op 11 rfl (by decide +kernel) rfl rfl (opTo_allocN _ rfl zero_ri ?_)
  intro w2 x5 hx5 hs2 hk2 hb2
  refine ⟨fun _ => hS.tr hk2, ?_⟩
  refine dr_op 12 rfl (by decide +kernel) rfl rfl (opTo_storeN (iC (9, ((a : Nat) : Int), B, N)) rfl rfl rfl rfl size_ri hb2 (by simp [iC]) (iC_one _) ?_)
  intro w3 hs3 hk3 hb3
  rw [splice_whole (by rfl)] at hb3
  have hk03 : Keep [] w w3 := hS.tr (hk2.trB hk3 (by omega))
  refine ⟨fun _ => hk03, ?_⟩
  refine dr_done (by decide +kernel) ?_
  have h3 := h.keep0 hk03
  have hn3 : x5 ∉ fpB b (.slice (some ⟨cb, cq, none⟩) W.length ccap) ⟨sv, cl, ks, kc, ov⟩ := fun hm => by
    have := (h.own x5 hm).2
    have := hS.size
    omega
  refine au ?_
  refine pl_val _ rfl rfl (val_load1 hT rfl rfl rfl (h3.bk.cell rfl)) ?_
  refine pl_num (((m.next + 1 : Nat) : Int)) rfl rfl rfl rfl rfl (by simp only [ariP]; omega) ?_
  refine au ?_
  refine pl_op rfl rfl (opTo_storeN [.int .i64 ((m.next + 1 : Nat) : Int)] rfl rfl rfl rfl size_in h3.bk (by simp [beC, mC]) (one_in _) ?_)
  intro w4 hs4 hk4 hb4
  have t4 := h3.put (m' := { m with next := m.next + 1 }) (p' := p) hk4 hb4 rfl rfl rfl
  obtain ⟨hx4, hn4⟩ := t4.blk hn3 hb3
  have t := BwT.late hk03 t4
  have h4 := t.1
  have hb4 := h4.bk
  clear t4 hs4 hk4 hk3 hs3 hb3 h3 hb2 hk2 hs2 hS hcr hn3
  refine au ?_
  refine pl_val _ rfl rfl (val_load1 hT rfl rfl rfl (hx4.cell rfl)) ?_
  refine aub ?_
  have hal : a < m.cells.length := by omega
  obtain ⟨g, gcap, hgv, _, _⟩ := h4.rc.at2 (cellAt_nat hal)
  simp only at hgv
  subst hgv
  refine rn_draw (fun w' => w'.cell? ⟨b, 7, none⟩ = some (.slice (some ⟨g, 0, none⟩) m.cells.length gcap) ∧ w'.cell? ⟨x5, 1, none⟩ = some (.int .i64 (a : Nat))) [10] hMix ?_
  have hS : w4.drew.cell? ⟨b, 7, none⟩ = some (.slice (some ⟨g, 0, none⟩) m.cells.length gcap) ∧ w4.drew.cell? ⟨x5, 1, none⟩ = some (.int .i64 (a : Nat)) := ⟨hb4.drew.cell rfl, hx4.drew.cell rfl⟩
  have hkd : Keep [] w4 w4.drew := (Keep.refl _ _).drew
  generalize w4.drew = w5 at *
  have t5 := t.keep0 hkd
  have h5 := t5.1
  refine tk 0 ?_
  refine tk 1 ?_
  refine tk 2 ?_
  refine tk 3 ?_
  refine dr_val 4 (.slice (some ⟨g, 0, none⟩) m.cells.length gcap) rfl (by decide +kernel) rfl rfl (fun w9 hS9 => val_load1 hT rfl rfl rfl hS9.1) hS ?_
  refine tk 5 ?_
  refine dr_val 6 (.int .i64 (a : Nat)) rfl (by decide +kernel) rfl rfl (fun w9 hS9 => val_load1 hT rfl rfl rfl hS9.2) hS ?_
  refine tk 7 ?_
  refine dr_op 8 rfl (by decide +kernel) rfl rfl (opTo_call (fst := []) (cap := []) rfl rfl rfl rfl (by decide +kernel) ((bPop_ret h5 (by show 0 < m.stack.length; omega) hst (topS m.stack) rfl).mono ?_))
  rintro v w6 ⟨rfl, s', t6⟩
  have hx6 := (t6.blk hn4 (hkd.blk hx4 (by simp))).1
  have h6 := t6.1
  refine ⟨fun _ => ⟨h6.bk.cell rfl, hx6.cell rfl⟩, ?_⟩
  refine dr_any 9 _ rfl (by decide +kernel) rfl rfl (fun w => val_index a hT rfl rfl rfl rfl rfl hal w) ?_
  rw [Nat.zero_add, Nat.mul_one]
  obtain ⟨cur, hcur, hcl', hset⟩ := h6.rc.set hal rfl
  refine dr_op 10 rfl (by decide +kernel) rfl rfl (opTo_storeN [.int .i64 (topS m.stack)] rfl rfl rfl rfl size_lg1 hcur (by simp; omega) (one_in _) ?_)
  intro w7 hs7 hk7 hb7
  rw [Nat.zero_add] at hb7
  refine ⟨fun h => absurd (by simp) h, ?_⟩
  refine dr_done (by decide +kernel) ?_
  have t7 := h6.putC (by simpa [obs, Value.ownBlock] using hk7) (hset hb7)
  refine au ?_
  have e : exI inp (9, ((a : Nat) : Int), B, N) m p = ({ m with next := m.next + 1, stack := m.stack.dropLast, cells := m.cells.set a (topS m.stack) }, p) := rfl
  rw [e]
  exact rn_ret Tryz.func40 (.inl ⟨_, rfl, rfl⟩) ⟨rfl, _, (t5.seq t6).seq t7⟩

theorem bStep_put {w0 w : World} {b : Nat} {W : List Is} {inp : List Int} {cv iv : Value} {r : Rws} {m k : Md} {p : Pr} (h : Bw w0 w b W inp cv iv r m k p) (hs : m.state = 0) {A B N : Int} (hx : W[m.next]? = some (10, A, B, N)) (hWl : W.length ≤ 1000000) (hst : m.stack.length ≤ 1000) (hcl : m.cells.length ≤ 1000) (h2 : 2 ≤ m.stack.length) (hA0 : 0 ≤ A) (hAB : A + B ≤ (m.cells.length : Int)) (q : Bool) :
    Ret Tryz.prog 40 [.pointer (some ⟨b, 0, none⟩), .bool q] w fun v w' => v = .bool true ∧ BwTo w0 w w' b W inp cv iv r (exI inp (10, A, B, N) m p).1 k (exI inp (10, A, B, N) m p).2 := by
  obtain ⟨a, rfl⟩ : ∃ a : Nat, A = (a : Nat) := ⟨A.toNat, by omega⟩
  obtain ⟨sv, cl, ks, kc, ov⟩ := r
  have hn : m.next < W.length := (List.getElem?_eq_some_iff.1 hx).1
  obtain ⟨cb, cq, ccap, hcv, hcF, hcr⟩ := h.cd.ins.at hx
  subst hcv
  refine ret_of 307 Tryz.func40 rfl rfl (by simp) ?_
  refine au ?_
  refine pl_val _ rfl rfl (val_load1 hT rfl rfl rfl (h.bk.cell rfl)) ?_
  refine nay ?_
  refine au ?_
  refine rn_draw (fun w' => Keep [] w w') [] hMix ?_
  have hS : Keep [] w w.drew := (Keep.refl _ _).drew
  generalize w.drew = w1 at *
  refine tk 0 ?_
  refine tk 1 ?_
  refine tk 2 ?_
  refine dr_val 3 (.slice (some ⟨cb, cq, none⟩) W.length ccap) rfl (by decide +kernel) rfl rfl (fun w9 hS9 => val_load1 hT rfl rfl rfl ((hS9.blk h.bk (by simp)).cell rfl)) hS ?_
  refine tk 4 ?_
  refine tk 5 ?_
  refine tk 6 ?_
  refine tk 7 ?_
  refine dr_val 8 (.int .i64 (m.next : Nat)) rfl (by decide +kernel) rfl rfl (fun w9 hS9 => val_load1 hT rfl rfl rfl ((hS9.blk h.bk (by simp)).cell rfl)) hS ?_
  refine dr_any 9 _ rfl (by decide +kernel) rfl rfl (fun w => val_index m.next hT rfl rfl rfl rfl rfl hn w) ?_
  refine dr_val 10 (.agg (iC (10, ((a : Nat) : Int), B, N)).toArray) rfl (by decide +kernel) rfl rfl (fun w9 hS9 => val_load (iC (10, ((a : Nat) : Int), B, N)) hT rfl rfl rfl (range_keep hcr hS9 hcF.2 (by simp))) hS ?_
  refine dr_op 11 rfl (by decide +kernel) rfl rfl (opTo_allocN _ rfl zero_ri ?_)
  intro w2 x5 hx5 hs2 hk2 hb2
  refine ⟨fun _ => hS.tr hk2, ?_⟩
  refine dr_op 12 rfl (by decide +kernel) rfl rfl (opTo_storeN (iC (10, ((a : Nat) : Int), B, N)) rfl rfl rfl rfl size_ri hb2 (by simp [iC]) (iC_one _) ?_)
  intro w3 hs3 hk3 hb3
  rw [splice_whole (by rfl)] at hb3
  have hk03 : Keep [] w w3 := hS.tr (hk2.trB hk3 (by omega))
  refine ⟨fun _ => hk03, ?_⟩
  refine dr_done (by decide +kernel) ?_
  have h3 := h.keep0 hk03
  have hn3 : x5 ∉ fpB b (.slice (some ⟨cb, cq, none⟩) W.length ccap) ⟨sv, cl, ks, kc, ov⟩ := fun hm => by
    have := (h.own x5 hm).2
    have := hS.size
    omega
  refine au ?_
  refine pl_val _ rfl rfl (val_load1 hT rfl rfl rfl (h3.bk.cell rfl)) ?_
  refine pl_num (((m.next + 1 : Nat) : Int)) rfl rfl rfl rfl rfl (by simp only [ariP]; omega) ?_
  refine au ?_
  refine pl_op rfl rfl (opTo_storeN [.int .i64 ((m.next + 1 : Nat) : Int)] rfl rfl rfl rfl size_in h3.bk (by simp [beC, mC]) (one_in _) ?_)
  intro w4 hs4 hk4 hb4
  have t4 := h3.put (m' := { m with next := m.next + 1 }) (p' := p) hk4 hb4 rfl rfl rfl
  obtain ⟨hx4, hn4⟩ := t4.blk hn3 hb3
  have t := BwT.late hk03 t4
  have h4 := t.1
  have hb4 := h4.bk
  clear t4 hs4 hk4 hk3 hs3 hb3 h3 hb2 hk2 hs2 hS hcr hn3
  refine au ?_
  refine pl_val _ rfl rfl (val_load1 hT rfl rfl rfl (hx4.cell rfl)) ?_
  refine aub ?_
  refine pl_op rfl rfl (opTo_call (fst := []) (cap := []) rfl rfl rfl rfl (by decide +kernel) ((bPop_ret h4 (by show 0 < m.stack.length; omega) hst (topS m.stack) rfl).mono ?_))
  rintro v w5 ⟨rfl, s', t5⟩
  have tt5 := t.seq t5
  have h5 := tt5.1
  obtain ⟨hx5', hn5⟩ := t5.blk hn4 hx4
  have hd1 : m.stack.dropLast.length ≤ 1000 := by simp; omega
  refine au ?_
  refine pl_op rfl rfl (opTo_call (fst := []) (cap := []) rfl rfl rfl rfl (by decide +kernel) ((bPop_ret h5 (by show 0 < m.stack.dropLast.length; simp; omega) hd1 (topS m.stack.dropLast) rfl).mono ?_))
  rintro v w6 ⟨rfl, s2, t6⟩
  have tt := tt5.seq t6
  have h6 := tt.1
  obtain ⟨hx6, hn6⟩ := t6.blk hn5 hx5'
  have hb6 := h6.bk
  clear hb4 hx4 hx5' t5 t6 t tt5
  refine au ?_
  by_cases hr : 0 ≤ topS m.stack.dropLast ∧ topS m.stack.dropLast < B
  · obtain ⟨kk, hkk⟩ : ∃ kk : Nat, topS m.stack.dropLast = (kk : Nat) := ⟨(topS m.stack.dropLast).toNat, by omega⟩
    have e : exI inp (10, ((a : Nat) : Int), B, N) m p = ({ m with next := m.next + 1, stack := m.stack.dropLast.dropLast, cells := m.cells.set (a + kk) (topS m.stack) }, p) := by
      show (if 0 ≤ topS m.stack.dropLast ∧ topS m.stack.dropLast < B then _ else _) = _
      rw [if_pos hr, hkk]
      rfl
    rw [e]
    rw [hkk] at hr ⊢
    have hal : a + kk < m.cells.length := by omega
    obtain ⟨g, gcap, hgv, _, _⟩ := h6.rc.at2 (cellAt_nat hal)
    simp only at hgv
    subst hgv
    refine nay ?_
    refine au ?_
    refine pl_val _ rfl rfl (val_load1 hT rfl rfl rfl (hx6.cell rfl)) ?_
    refine nay ?_
    refine au ?_
    refine rn_draw (fun w' => Keep [] w6 w') [11] hMix ?_
    have hS : Keep [] w6 w6.drew := (Keep.refl _ _).drew
    generalize w6.drew = w7 at *
    refine tk 0 ?_
    refine tk 1 ?_
    refine tk 2 ?_
    refine tk 3 ?_
    refine dr_val 4 (.slice (some ⟨g, 0, none⟩) m.cells.length gcap) rfl (by decide +kernel) rfl rfl (fun w9 hS9 => val_load1 hT rfl rfl rfl ((hS9.blk hb6 (by simp)).cell rfl)) hS ?_
    refine tk 5 ?_
    refine dr_val 6 (.int .i64 (a : Nat)) rfl (by decide +kernel) rfl rfl (fun w9 hS9 => val_load1 hT rfl rfl rfl ((hS9.blk hx6 (by simp)).cell rfl)) hS ?_
    refine tk 7 ?_
    refine dr_num 8 (((a + kk : Nat) : Int)) rfl (by decide +kernel) rfl rfl rfl rfl rfl (by simp only [ariP]; omega) ?_
    refine tk 9 ?_
    refine dr_any 10 _ rfl (by decide +kernel) rfl rfl (fun w => val_index (a + kk) hT rfl rfl rfl rfl rfl hal w) ?_
    rw [Nat.zero_add, Nat.mul_one]
    have h7 := h6.keep0 hS
    obtain ⟨cur, hcur, hcl', hset⟩ := h7.rc.set hal rfl
    refine dr_op 11 rfl (by decide +kernel) rfl rfl (opTo_storeN [.int .i64 (topS m.stack)] rfl rfl rfl rfl size_lg1 hcur (by simp; omega) (one_in _) ?_)
    intro w8 hs8 hk8 hb8
    rw [Nat.zero_add] at hb8
    refine ⟨fun h => absurd (by simp) h, ?_⟩
    refine dr_done (by decide +kernel) ?_
    have t8 := h7.putC (by simpa [obs, Value.ownBlock] using hk8) (hset hb8)
    refine au ?_
    exact rn_ret Tryz.func40 (.inl ⟨_, rfl, rfl⟩) ⟨rfl, _, (tt.keep0 hS).seq t8⟩
  · have e : exI inp (10, ((a : Nat) : Int), B, N) m p = ({ m with next := m.next + 1, stack := m.stack.dropLast.dropLast, state := 13 }, p) := by
      show (if 0 ≤ topS m.stack.dropLast ∧ topS m.stack.dropLast < B then _ else _) = _
      rw [if_neg hr]
    rw [e]
    by_cases hneg : topS m.stack.dropLast < 0
    · refine ye ?_
      refine au ?_
      refine pl_op rfl rfl (opTo_storeN [.int .i64 13] rfl rfl rfl rfl size_in hb6 (by simp [beC, mC]) (one_in _) ?_)
      intro wz hsz hkz hbz
      have tz := h6.put (m' := { m with next := m.next + 1, stack := m.stack.dropLast.dropLast, state := 13 }) (p' := p) hkz hbz rfl rfl rfl
      refine au ?_
      exact rn_ret Tryz.func40 (.inl ⟨_, rfl, rfl⟩) ⟨rfl, _, tt.seq tz⟩
    · refine nay ?_
      refine au ?_
      refine pl_val _ rfl rfl (val_load1 hT rfl rfl rfl (hx6.cell rfl)) ?_
      refine ye ?_
      refine au ?_
      refine pl_op rfl rfl (opTo_storeN [.int .i64 13] rfl rfl rfl rfl size_in hb6 (by simp [beC, mC]) (one_in _) ?_)
      intro wz hsz hkz hbz
      have tz := h6.put (m' := { m with next := m.next + 1, stack := m.stack.dropLast.dropLast, state := 13 }) (p' := p) hkz hbz rfl rfl rfl
      refine au ?_
      exact rn_ret Tryz.func40 (.inl ⟨_, rfl, rfl⟩) ⟨rfl, _, tt.seq tz⟩
end E
end Go.Proofs.YtmplkogkphmmjafGreat

/- The document's Being: Step, at IPrint, IRead. -/
namespace Go.Proofs.YtmplkogkphmmjafGreat
set_option maxRecDepth 20000
set_option maxHeartbeats 4000000
namespace E
open Go.Proofs

theorem size_bo' : sizeOk Tryz.prog 4 1 = true := by kernel_rfl
theorem bStep_print {w0 w : World} {b : Nat} {W : List Is} {inp : List Int} {cv iv : Value} {r : Rws} {m k : Md} {p : Pr} (h : Bw w0 w b W inp cv iv r m k p) (hs : m.state = 0) {A B N : Int} (hx : W[m.next]? = some (11, A, B, N)) (hWl : W.length ≤ 1000000) (hst : m.stack.length ≤ 1000) (_ : m.cells.length ≤ 1000) (h1 : 1 ≤ m.stack.length) (hou : m.out ≤ p.1.length) (hpl : p.1.length ≤ 100000) (q : Bool) :
    Ret Tryz.prog 40 [.pointer (some ⟨b, 0, none⟩), .bool q] w fun v w' => v = .bool true ∧ BwTo w0 w w' b W inp cv iv r (exI inp (11, A, B, N) m p).1 k (exI inp (11, A, B, N) m p).2 := by
  obtain ⟨sv, cl, ks, kc, ov⟩ := r
  have hn : m.next < W.length := (List.getElem?_eq_some_iff.1 hx).1
  obtain ⟨cb, cq, ccap, hcv, hcF, hcr⟩ := h.cd.ins.at hx
  subst hcv
  refine ret_of 307 Tryz.func40 rfl rfl (by simp) ?_
  refine au ?_
  refine pl_val _ rfl rfl (val_load1 hT rfl rfl rfl (h.bk.cell rfl)) ?_
  refine nay ?_
  refine au ?_
  refine rn_draw (fun w' => Keep [] w w') [] hMix ?_
  have hS : Keep [] w w.drew := (Keep.refl _ _).drew
  generalize w.drew = w1 at *
  refine tk 0 ?_
  refine tk 1 ?_
  refine tk 2 ?_
  refine dr_val 3 (.slice (some ⟨cb, cq, none⟩) W.length ccap) rfl (by decide +kernel) rfl rfl (fun w9 hS9 => val_load1 hT rfl rfl rfl ((hS9.blk h.bk (by simp)).cell rfl)) hS ?_
  refine tk 4 ?_
  refine tk 5 ?_
  refine tk 6 ?_
  refine tk 7 ?_
  refine dr_val 8 (.int .i64 (m.next : Nat)) rfl (by decide +kernel) rfl rfl (fun w9 hS9 => val_load1 hT rfl rfl rfl ((hS9.blk h.bk (by simp)).cell rfl)) hS ?_
  refine dr_any 9 _ rfl (by decide +kernel) rfl rfl (fun w => val_index m.next hT rfl rfl rfl rfl rfl hn w) ?_
  refine dr_val 10 (.agg (iC (11, A, B, N)).toArray) rfl (by decide +kernel) rfl rfl (fun w9 hS9 => val_load (iC (11, A, B, N)) hT rfl rfl rfl (range_keep hcr hS9 hcF.2 (by simp))) hS ?_
  refine dr_op 11 rfl (by decide +kernel) rfl rfl (opTo_allocN _ rfl zero_ri ?_)
  intro w2 x5 hx5 hs2 hk2 hb2
  refine ⟨fun _ => hS.tr hk2, ?_⟩
  refine dr_op 12 rfl (by decide +kernel) rfl rfl (opTo_storeN (iC (11, A, B, N)) rfl rfl rfl rfl size_ri hb2 (by simp [iC]) (iC_one _) ?_)
  intro w3 hs3 hk3 hb3
  rw [splice_whole (by rfl)] at hb3
  have hk03 : Keep [] w w3 := hS.tr (hk2.trB hk3 (by omega))
  refine ⟨fun _ => hk03, ?_⟩
  refine dr_done (by decide +kernel) ?_
  have h3 := h.keep0 hk03
  have hn3 : x5 ∉ fpB b (.slice (some ⟨cb, cq, none⟩) W.length ccap) ⟨sv, cl, ks, kc, ov⟩ := fun hm => by
    have := (h.own x5 hm).2
    have := hS.size
    omega
  refine au ?_
  refine pl_val _ rfl rfl (val_load1 hT rfl rfl rfl (h3.bk.cell rfl)) ?_
  refine pl_num (((m.next + 1 : Nat) : Int)) rfl rfl rfl rfl rfl (by simp only [ariP]; omega) ?_
  refine au ?_
  refine pl_op rfl rfl (opTo_storeN [.int .i64 ((m.next + 1 : Nat) : Int)] rfl rfl rfl rfl size_in h3.bk (by simp [beC, mC]) (one_in _) ?_)
  intro w4 hs4 hk4 hb4
  have t4 := h3.put (m' := { m with next := m.next + 1 }) (p' := p) hk4 hb4 rfl rfl rfl
  obtain ⟨hx4, hn4⟩ := t4.blk hn3 hb3
  have t := BwT.late hk03 t4
  have h4 := t.1
  have hb4 := h4.bk
  clear t4 hs4 hk4 hk3 hs3 hb3 h3 hb2 hk2 hs2 hS hcr hn3
  refine au ?_
  refine pl_val _ rfl rfl (val_load1 hT rfl rfl rfl (hx4.cell rfl)) ?_
  refine aub ?_
  refine pl_op rfl rfl (opTo_call (fst := []) (cap := []) rfl rfl rfl rfl (by decide +kernel) ((bPop_ret h4 (by show 0 < m.stack.length; omega) hst (topS m.stack) rfl).mono ?_))
  rintro v w5 ⟨rfl, s', t5⟩
  have tt := t.seq t5
  have h5 := tt.1
  have hb5 := h5.bk
  clear hb4 hx4 t5 t
  obtain ⟨oa, ocap, hov⟩ := h5.ro.form
  simp only at hov
  subst hov
  refine au ?_
  refine rn_draw (fun w' => Keep [] w5 w') [] hMix ?_
  have hS : Keep [] w5 w5.drew := (Keep.refl _ _).drew
  generalize w5.drew = w6 at *
  refine tk 0 ?_
  refine tk 1 ?_
  refine tk 2 ?_
  refine tk 3 ?_
  refine dr_val 4 (.int .i64 (m.out : Nat)) rfl (by decide +kernel) rfl rfl (fun w9 hS9 => val_load1 hT rfl rfl rfl ((hS9.blk hb5 (by simp)).cell rfl)) hS ?_
  refine tk 5 ?_
  refine tk 6 ?_
  refine tk 7 ?_
  refine dr_val 8 (.slice oa p.1.length ocap) rfl (by decide +kernel) rfl rfl (fun w9 hS9 => val_load1 hT rfl rfl rfl ((hS9.blk hb5 (by simp)).cell rfl)) hS ?_
  refine tk 9 ?_
  have tt6 := tt.keep0 hS
  have h6 := tt6.1
  have hb6 := h6.bk
  by_cases hoe : m.out = p.1.length
  · refine dye 10 ?_
    refine dr_done (by decide +kernel) ?_
    refine au ?_
    refine pl_val _ rfl rfl (val_load1 hT rfl rfl rfl (hb6.cell rfl)) ?_
    refine au ?_
    refine pl_op rfl rfl (opTo_sliceN tLg [.int .i64 (topS m.stack)] rfl rfl (slice_lg _) ?_)
    intro w7 g7 hg7 hs7 hk7 hb7
    have h7 := h6.keep0 hk7
    refine pl_op rfl rfl (opTo_app w0.heap.size tLg 1 8 (lgs p.1) [.int .i64 (topS m.stack)] rfl rfl rfl app_lg h7.ro (hb7.range rfl) rfl (one_v rfl) (by decide) (by unfold maxLen; omega) (by omega) h7.kp.size ?_)
    intro g8 cap8 w8 hown8 hcase
    have hrow8 : RowL w8 w0.heap.size (.slice (some ⟨g8, 0, none⟩) (p.1.length + 1) cap8) (p.1 ++ [topS m.stack]) := by
      have e1 : (p.1 ++ [topS m.stack]).length = p.1.length + 1 := by simp
      have e2 : lgs (p.1 ++ [topS m.stack]) = lgs p.1 ++ [.int .i64 (topS m.stack)] := by rw [lgs_app]; rfl
      unfold RowL
      rw [e1, e2]
      exact hown8
    have hk8 : Keep (obs (.slice oa p.1.length ocap)) w7 w8 := by
      rcases hcase with ⟨h3, _, h4⟩ | ⟨_, h4, _⟩
      · rw [obs, h3]; exact h4
      · exact h4.of0
    have hob : ∀ x ∈ obs (.slice (some ⟨g8, 0, none⟩) (p.1.length + 1) cap8), x ∈ obs (.slice oa p.1.length ocap) ∨ w7.heap.size ≤ x := fun x hx => by
      have hx : x = g8 := by simpa [obs, Value.ownBlock] using hx
      subst hx
      rcases hcase with ⟨h3, _, _⟩ | ⟨h3, _, _⟩
      · exact .inl (mem_obs.2 h3)
      · exact .inr (by omega)
    refine au ?_
    refine pl_op rfl rfl (opTo_storeN [.slice (some ⟨g8, 0, none⟩) (p.1.length + 1) cap8] rfl rfl rfl rfl size_ls (hk8.blk h7.bk fun hm => h7.ro.ne h7.bk neBL b hm (by simp)) (by simp [beC, mC]) (one_v rfl) ?_)
    intro w9 hs9 hk9 hb9
    have t9 := h7.putO (p' := (p.1 ++ [topS m.stack], p.2)) hk8 hrow8 hob hk9 hb9
    have tt9 := (tt6.keep0 hk7).seq t9
    have h9 := tt9.1
    have hbb := h9.bk
    refine au ?_
    refine pl_val _ rfl rfl (val_load1 hT rfl rfl rfl (hbb.cell rfl)) ?_
    refine pl_num (((m.out + 1 : Nat) : Int)) rfl rfl rfl rfl rfl (by simp only [ariP]; omega) ?_
    refine au ?_
    refine pl_op rfl rfl (opTo_storeN [.int .i64 ((m.out + 1 : Nat) : Int)] rfl rfl rfl rfl size_in hbb (by simp [beC, mC]) (one_in _) ?_)
    intro wz hsz hkz hbz
    have tz := h9.put (m' := { m with next := m.next + 1, stack := m.stack.dropLast, out := m.out + 1 }) (p' := (p.1 ++ [topS m.stack], p.2)) hkz hbz rfl rfl rfl
    refine au ?_
    have e : exI inp (11, A, B, N) m p = ({ m with next := m.next + 1, stack := m.stack.dropLast, out := m.out + 1 }, (p.1 ++ [topS m.stack], p.2)) := by
      show (_, putP p m.out (topS m.stack)) = _
      unfold putP
      rw [if_pos hoe]
    rw [e]
    exact rn_ret Tryz.func40 (.inl ⟨_, rfl, rfl⟩) ⟨rfl, _, tt9.seq tz⟩
  · refine dno 10 ?_
    refine dr_done (by decide +kernel) ?_
    have hol : m.out < p.1.length := by omega
    have hpx : p.1[m.out]? = some p.1[m.out] := List.getElem?_eq_getElem hol
    obtain ⟨g, gcap, hgv, hgl, hgr⟩ := h6.ro.at2 hpx
    simp only at hgv
    cases hgv
    refine au ?_
    refine rn_draw (fun w' => Keep [] w6 w') [] hMix ?_
    have hS6 : Keep [] w6 w6.drew := (Keep.refl _ _).drew
    generalize w6.drew = w7 at *
    refine tk 0 ?_
    refine tk 1 ?_
    refine tk 2 ?_
    refine dr_val 3 (.slice (some ⟨g, 0, none⟩) p.1.length ocap) rfl (by decide +kernel) rfl rfl (fun w9 hS9 => val_load1 hT rfl rfl rfl ((hS9.blk hb6 (by simp)).cell rfl)) hS6 ?_
    refine tk 4 ?_
    refine tk 5 ?_
    refine tk 6 ?_
    refine tk 7 ?_
    refine dr_val 8 (.int .i64 (m.out : Nat)) rfl (by decide +kernel) rfl rfl (fun w9 hS9 => val_load1 hT rfl rfl rfl ((hS9.blk hb6 (by simp)).cell rfl)) hS6 ?_
    refine dr_any 9 _ rfl (by decide +kernel) rfl rfl (fun w => val_index m.out hT rfl rfl rfl rfl rfl hol w) ?_
    refine dr_val 10 (.int .i64 p.1[m.out]) rfl (by decide +kernel) rfl rfl (fun w9 hS9 => val_load1 hT rfl rfl rfl (by have := range_keep hgr hS9 hgl (by simp) 0 _ rfl; simpa using this)) hS6 ?_
    refine tk 11 ?_
    have tt7 := tt6.keep0 hS6
    have h7 := tt7.1
    have hb7 := h7.bk
    by_cases hsame : p.1[m.out] = topS m.stack
    · refine dno 12 ?_
      refine dr_done (by decide +kernel) ?_
      refine au ?_
      refine pl_val _ rfl rfl (val_load1 hT rfl rfl rfl (hb7.cell rfl)) ?_
      refine pl_num (((m.out + 1 : Nat) : Int)) rfl rfl rfl rfl rfl (by simp only [ariP]; omega) ?_
      refine au ?_
      refine pl_op rfl rfl (opTo_storeN [.int .i64 ((m.out + 1 : Nat) : Int)] rfl rfl rfl rfl size_in hb7 (by simp [beC, mC]) (one_in _) ?_)
      intro wz hsz hkz hbz
      have tz := h7.put (m' := { m with next := m.next + 1, stack := m.stack.dropLast, out := m.out + 1 }) (p' := p) hkz hbz rfl rfl rfl
      refine au ?_
      have e : exI inp (11, A, B, N) m p = ({ m with next := m.next + 1, stack := m.stack.dropLast, out := m.out + 1 }, p) := by
        show (_, putP p m.out (topS m.stack)) = _
        unfold putP
        rw [if_neg hoe, if_pos (by rw [hpx, hsame])]
      rw [e]
      exact rn_ret Tryz.func40 (.inl ⟨_, rfl, rfl⟩) ⟨rfl, _, tt7.seq tz⟩
    · refine dye 12 ?_
      refine dr_done (by decide +kernel) ?_
      refine au ?_
      refine pl_op rfl rfl (opTo_storeN [.bool true] rfl rfl rfl rfl size_bo' hb7 (by simp [beC, mC]) (one_v rfl) ?_)
      intro w8 hs8 hk8 hb8
      have t8 := h7.put (m' := { m with next := m.next + 1, stack := m.stack.dropLast }) (p' := (p.1, true)) hk8 hb8 rfl rfl rfl
      have tt8 := tt7.seq t8
      have h8 := tt8.1
      have hbb := h8.bk
      refine au ?_
      refine pl_val _ rfl rfl (val_load1 hT rfl rfl rfl (hbb.cell rfl)) ?_
      refine pl_num (((m.out + 1 : Nat) : Int)) rfl rfl rfl rfl rfl (by simp only [ariP]; omega) ?_
      refine au ?_
      refine pl_op rfl rfl (opTo_storeN [.int .i64 ((m.out + 1 : Nat) : Int)] rfl rfl rfl rfl size_in hbb (by simp [beC, mC]) (one_in _) ?_)
      intro wz hsz hkz hbz
      have tz := h8.put (m' := { m with next := m.next + 1, stack := m.stack.dropLast, out := m.out + 1 }) (p' := (p.1, true)) hkz hbz rfl rfl rfl
      refine au ?_
      have e : exI inp (11, A, B, N) m p = ({ m with next := m.next + 1, stack := m.stack.dropLast, out := m.out + 1 }, (p.1, true)) := by
        show (_, putP p m.out (topS m.stack)) = _
        unfold putP
        rw [if_neg hoe, if_neg (by rw [hpx]; intro hh; exact hsame (Option.some.inj hh))]
      rw [e]
      exact rn_ret Tryz.func40 (.inl ⟨_, rfl, rfl⟩) ⟨rfl, _, tt8.seq tz⟩

theorem bStep_read {w0 w : World} {b : Nat} {W : List Is} {inp : List Int} {cv iv : Value} {r : Rws} {m k : Md} {p : Pr} (h : Bw w0 w b W inp cv iv r m k p) (hs : m.state = 0) {A B N : Int} (hx : W[m.next]? = some (12, A, B, N)) (hWl : W.length ≤ 1000000) (_ : m.stack.length ≤ 1000) (_ : m.cells.length ≤ 1000) (hA0 : 0 ≤ A) (hA : A < (m.cells.length : Int)) (hil : inp.length ≤ 100000) (hrd : m.read ≤ 1000000) (q : Bool) :
    Ret Tryz.prog 40 [.pointer (some ⟨b, 0, none⟩), .bool q] w fun v w' => v = .bool true ∧ BwTo w0 w w' b W inp cv iv r (exI inp (12, A, B, N) m p).1 k (exI inp (12, A, B, N) m p).2 := by
  obtain ⟨a, rfl⟩ : ∃ a : Nat, A = (a : Nat) := ⟨A.toNat, by omega⟩
  obtain ⟨sv, cl, ks, kc, ov⟩ := r
  have hn : m.next < W.length := (List.getElem?_eq_some_iff.1 hx).1
  obtain ⟨cb, cq, ccap, hcv, hcF, hcr⟩ := h.cd.ins.at hx
  subst hcv
  refine ret_of 307 Tryz.func40 rfl rfl (by simp) ?_
  refine au ?_
  refine pl_val _ rfl rfl (val_load1 hT rfl rfl rfl (h.bk.cell rfl)) ?_
  refine nay ?_
  refine au ?_
  refine rn_draw (fun w' => Keep [] w w') [] hMix ?_
  have hS : Keep [] w w.drew := (Keep.refl _ _).drew
  generalize w.drew = w1 at *
  refine tk 0 ?_
  refine tk 1 ?_
  refine tk 2 ?_
  refine dr_val 3 (.slice (some ⟨cb, cq, none⟩) W.length ccap) rfl (by decide +kernel) rfl rfl (fun w9 hS9 => val_load1 hT rfl rfl rfl ((hS9.blk h.bk (by simp)).cell rfl)) hS ?_
  refine tk 4 ?_
  refine tk 5 ?_
  refine tk 6 ?_
  refine tk 7 ?_
  refine dr_val 8 (.int .i64 (m.next : Nat)) rfl (by decide +kernel) rfl rfl (fun w9 hS9 => val_load1 hT rfl rfl rfl ((hS9.blk h.bk (by simp)).cell rfl)) hS ?_
  refine dr_any 9 _ rfl (by decide +kernel) rfl rfl (fun w => val_index m.next hT rfl rfl rfl rfl rfl hn w) ?_
  refine dr_val 10 (.agg (iC (12, ((a : Nat) : Int), B, N)).toArray) rfl (by decide +kernel) rfl rfl (fun w9 hS9 => val_load (iC (12, ((a : Nat) : Int), B, N)) hT rfl rfl rfl (range_keep hcr hS9 hcF.2 (by simp))) hS ?_
  refine dr_op 11 rfl (by decide +kernel) rfl rfl (opTo_allocN _ rfl zero_ri ?_)
  intro w2 x5 hx5 hs2 hk2 hb2
  refine ⟨fun _ => hS.tr hk2, ?_⟩
  refine dr_op 12 rfl (by decide +kernel) rfl rfl (opTo_storeN (iC (12, ((a : Nat) : Int), B, N)) rfl rfl rfl rfl size_ri hb2 (by simp [iC]) (iC_one _) ?_)
  intro w3 hs3 hk3 hb3
  rw [splice_whole (by rfl)] at hb3
  have hk03 : Keep [] w w3 := hS.tr (hk2.trB hk3 (by omega))
  refine ⟨fun _ => hk03, ?_⟩
  refine dr_done (by decide +kernel) ?_
  have h3 := h.keep0 hk03
  have hn3 : x5 ∉ fpB b (.slice (some ⟨cb, cq, none⟩) W.length ccap) ⟨sv, cl, ks, kc, ov⟩ := fun hm => by
    have := (h.own x5 hm).2
    have := hS.size
    omega
  refine au ?_
  refine pl_val _ rfl rfl (val_load1 hT rfl rfl rfl (h3.bk.cell rfl)) ?_
  refine pl_num (((m.next + 1 : Nat) : Int)) rfl rfl rfl rfl rfl (by simp only [ariP]; omega) ?_
  refine au ?_
  refine pl_op rfl rfl (opTo_storeN [.int .i64 ((m.next + 1 : Nat) : Int)] rfl rfl rfl rfl size_in h3.bk (by simp [beC, mC]) (one_in _) ?_)
  intro w4 hs4 hk4 hb4
  have t4 := h3.put (m' := { m with next := m.next + 1 }) (p' := p) hk4 hb4 rfl rfl rfl
  obtain ⟨hx4, hn4⟩ := t4.blk hn3 hb3
  have t := BwT.late hk03 t4
  have h4 := t.1
  have hb4 := h4.bk
  clear t4 hs4 hk4 hk3 hs3 hb3 h3 hb2 hk2 hs2 hS hcr hn3
  refine au ?_
  refine pl_val _ rfl rfl (val_load1 hT rfl rfl rfl (hx4.cell rfl)) ?_
  refine aub ?_
  have hal : a < m.cells.length := by omega
  obtain ⟨g, gcap, hgv, _, _⟩ := h4.rc.at2 (cellAt_nat hal)
  simp only at hgv
  subst hgv
  obtain ⟨ia, icap, hiv, hir⟩ := h4.inp
  subst hiv
  refine rn_draw (fun w' => Keep [] w4 w') [] hMix ?_
  have hS : Keep [] w4 w4.drew := (Keep.refl _ _).drew
  generalize w4.drew = w5 at *
  refine tk 0 ?_
  refine tk 1 ?_
  refine tk 2 ?_
  refine tk 3 ?_
  refine dr_val 4 (.int .i64 (m.read : Nat)) rfl (by decide +kernel) rfl rfl (fun w9 hS9 => val_load1 hT rfl rfl rfl ((hS9.blk hb4 (by simp)).cell rfl)) hS ?_
  refine tk 5 ?_
  refine tk 6 ?_
  refine tk 7 ?_
  refine dr_val 8 (.slice ia inp.length icap) rfl (by decide +kernel) rfl rfl (fun w9 hS9 => val_load1 hT rfl rfl rfl ((hS9.blk hb4 (by simp)).cell rfl)) hS ?_
  refine tk 9 ?_
  have tt := t.keep0 hS
  have h5 := tt.1
  have hb5 := h5.bk
  have hx5' := hS.blk hx4 (by simp)
  by_cases hrl : m.read < inp.length
  · refine dno 10 ?_
    refine dr_done (by decide +kernel) ?_
    obtain ⟨ib, iq, hia, hil2, hirg⟩ := hir (by omega)
    subst hia
    have hix : inp[m.read]? = some (inp.getD m.read 0) := by rw [List.getD_eq_getElem?_getD, List.getElem?_eq_getElem hrl]; rfl
    refine au ?_
    refine rn_draw (fun w' => Keep [] w5 w') [19] hMix ?_
    have hS5 : Keep [] w5 w5.drew := (Keep.refl _ _).drew
    generalize w5.drew = w6 at *
    refine tk 0 ?_
    refine tk 1 ?_
    refine tk 2 ?_
    refine tk 3 ?_
    refine dr_val 4 (.slice (some ⟨g, 0, none⟩) m.cells.length gcap) rfl (by decide +kernel) rfl rfl (fun w9 hS9 => val_load1 hT rfl rfl rfl ((hS9.blk hb5 (by simp)).cell rfl)) hS5 ?_
    refine tk 5 ?_
    refine dr_val 6 (.int .i64 (a : Nat)) rfl (by decide +kernel) rfl rfl (fun w9 hS9 => val_load1 hT rfl rfl rfl ((hS9.blk hx5' (by simp)).cell rfl)) hS5 ?_
    refine tk 7 ?_
    refine tk 8 ?_
    refine tk 9 ?_
    refine dr_val 10 (.slice (some ⟨ib, iq, none⟩) inp.length icap) rfl (by decide +kernel) rfl rfl (fun w9 hS9 => val_load1 hT rfl rfl rfl ((hS9.blk hb5 (by simp)).cell rfl)) hS5 ?_
    refine tk 11 ?_
    refine tk 12 ?_
    refine tk 13 ?_
    refine tk 14 ?_
    refine dr_val 15 (.int .i64 (m.read : Nat)) rfl (by decide +kernel) rfl rfl (fun w9 hS9 => val_load1 hT rfl rfl rfl ((hS9.blk hb5 (by simp)).cell rfl)) hS5 ?_
    refine dr_any 16 _ rfl (by decide +kernel) rfl rfl (fun w => val_index m.read hT rfl rfl rfl rfl rfl hrl w) ?_
    refine dr_val 17 (.int .i64 (inp.getD m.read 0)) rfl (by decide +kernel) rfl rfl (fun w9 hS9 => val_load1 hT rfl rfl rfl (by have := range_keep hirg (h5.kp.tr hS9) hil2 (by simp) m.read _ (lgs_at hix); simpa using this)) hS5 ?_
    refine dr_any 18 _ rfl (by decide +kernel) rfl rfl (fun w => val_index a hT rfl rfl rfl rfl rfl hal w) ?_
    have h6 := h5.keep0 hS5
    obtain ⟨cur, hcur, hcl', hset⟩ := h6.rc.set hal rfl
    refine dr_op 19 rfl (by decide +kernel) rfl rfl (opTo_storeN [.int .i64 (inp.getD m.read 0)] rfl rfl rfl rfl size_lg1 hcur (by simp; omega) (one_in _) ?_)
    intro w7 hs7 hk7 hb7
    rw [Nat.zero_add, Nat.mul_one] at hb7
    refine ⟨fun h => absurd (by simp) h, ?_⟩
    refine dr_done (by decide +kernel) ?_
    have t7 := h6.putC (by simpa [obs, Value.ownBlock] using hk7) (hset hb7)
    have tt7 := (tt.keep0 hS5).seq t7
    have h7 := tt7.1
    have hbb := h7.bk
    refine au ?_
    refine pl_val _ rfl rfl (val_load1 hT rfl rfl rfl (hbb.cell rfl)) ?_
    refine pl_num (((m.read + 1 : Nat) : Int)) rfl rfl rfl rfl rfl (by simp only [ariP]; omega) ?_
    refine au ?_
    refine pl_op rfl rfl (opTo_storeN [.int .i64 ((m.read + 1 : Nat) : Int)] rfl rfl rfl rfl size_in hbb (by simp [beC, mC]) (one_in _) ?_)
    intro wz hsz hkz hbz
    have tz := h7.put (m' := { m with next := m.next + 1, cells := m.cells.set a (inp.getD m.read 0), read := m.read + 1 }) (p' := p) hkz hbz rfl rfl rfl
    refine au ?_
    have e : exI inp (12, ((a : Nat) : Int), B, N) m p = ({ m with next := m.next + 1, cells := m.cells.set a (inp.getD m.read 0), read := m.read + 1 }, p) := by
      show (if m.read < inp.length then _ else _) = _
      rw [if_pos hrl]
      rfl
    rw [e]
    exact rn_ret Tryz.func40 (.inl ⟨_, rfl, rfl⟩) ⟨rfl, _, tt7.seq tz⟩
  · refine dye 10 ?_
    refine dr_done (by decide +kernel) ?_
    refine au ?_
    refine pl_op rfl rfl (opTo_storeN [.int .i64 14] rfl rfl rfl rfl size_in hb5 (by simp [beC, mC]) (one_in _) ?_)
    intro wz hsz hkz hbz
    have tz := h5.put (m' := { m with next := m.next + 1, state := 14 }) (p' := p) hkz hbz rfl rfl rfl
    refine au ?_
    have e : exI inp (12, ((a : Nat) : Int), B, N) m p = ({ m with next := m.next + 1, state := 14 }, p) := by
      show (if m.read < inp.length then _ else _) = _
      rw [if_neg hrl]
    rw [e]
    exact rn_ret Tryz.func40 (.inl ⟨_, rfl, rfl⟩) ⟨rfl, _, tt.seq tz⟩
end E
end Go.Proofs.YtmplkogkphmmjafGreat

/- The document's Being: Step, at IElse, IJump, ICommit, IHalt, and where it goes on no longer. -/
namespace Go.Proofs.YtmplkogkphmmjafGreat
set_option maxRecDepth 20000
set_option maxHeartbeats 4000000
namespace E
open Go.Proofs

theorem bStep_else {w0 w : World} {b : Nat} {W : List Is} {inp : List Int} {cv iv : Value} {r : Rws} {m k : Md} {p : Pr} (h : Bw w0 w b W inp cv iv r m k p) (hs : m.state = 0) {A B N : Int} (hx : W[m.next]? = some (13, A, B, N)) (hWl : W.length ≤ 1000000) (hst : m.stack.length ≤ 1000) (_ : m.cells.length ≤ 1000) (h1 : 1 ≤ m.stack.length) (hA0 : 0 ≤ A) (q : Bool) :
    Ret Tryz.prog 40 [.pointer (some ⟨b, 0, none⟩), .bool q] w fun v w' => v = .bool true ∧ BwTo w0 w w' b W inp cv iv r (exI inp (13, A, B, N) m p).1 k (exI inp (13, A, B, N) m p).2 := by
  obtain ⟨a, rfl⟩ : ∃ a : Nat, A = (a : Nat) := ⟨A.toNat, by omega⟩
  obtain ⟨sv, cl, ks, kc, ov⟩ := r
  have hn : m.next < W.length := (List.getElem?_eq_some_iff.1 hx).1
  obtain ⟨cb, cq, ccap, hcv, hcF, hcr⟩ := h.cd.ins.at hx
  subst hcv
  refine ret_of 307 Tryz.func40 rfl rfl (by simp) ?_
  refine au ?_
  refine pl_val _ rfl rfl (val_load1 hT rfl rfl rfl (h.bk.cell rfl)) ?_
  refine nay ?_
  refine au ?_
  refine rn_draw (fun w' => Keep [] w w') [] hMix ?_
  have hS : Keep [] w w.drew := (Keep.refl _ _).drew
  generalize w.drew = w1 at *
  refine tk 0 ?_
  refine tk 1 ?_
  refine tk 2 ?_
  refine dr_val 3 (.slice (some ⟨cb, cq, none⟩) W.length ccap) rfl (by decide +kernel) rfl rfl (fun w9 hS9 => val_load1 hT rfl rfl rfl ((hS9.blk h.bk (by simp)).cell rfl)) hS ?_
  refine tk 4 ?_
  refine tk 5 ?_
  refine tk 6 ?_
  refine tk 7 ?_
  refine dr_val 8 (.int .i64 (m.next : Nat)) rfl (by decide +kernel) rfl rfl (fun w9 hS9 => val_load1 hT rfl rfl rfl ((hS9.blk h.bk (by simp)).cell rfl)) hS ?_
  refine dr_any 9 _ rfl (by decide +kernel) rfl rfl (fun w => val_index m.next hT rfl rfl rfl rfl rfl hn w) ?_
  refine dr_val 10 (.agg (iC (13, ((a : Nat) : Int), B, N)).toArray) rfl (by decide +kernel) rfl rfl (fun w9 hS9 => val_load (iC (13, ((a : Nat) : Int), B, N)) hT rfl rfl rfl (range_keep hcr hS9 hcF.2 (by simp))) hS ?_
  refine dr_op 11 rfl (by decide +kernel) rfl rfl (opTo_allocN _ rfl zero_ri ?_)
  intro w2 x5 hx5 hs2 hk2 hb2
  refine ⟨fun _ => hS.tr hk2, ?_⟩
  refine dr_op 12 rfl (by decide +kernel) rfl rfl (opTo_storeN (iC (13, ((a : Nat) : Int), B, N)) rfl rfl rfl rfl size_ri hb2 (by simp [iC]) (iC_one _) ?_)
  intro w3 hs3 hk3 hb3
  rw [splice_whole (by rfl)] at hb3
  have hk03 : Keep [] w w3 := hS.tr (hk2.trB hk3 (by omega))
  refine ⟨fun _ => hk03, ?_⟩
  refine dr_done (by decide +kernel) ?_
  have h3 := h.keep0 hk03
  have hn3 : x5 ∉ fpB b (.slice (some ⟨cb, cq, none⟩) W.length ccap) ⟨sv, cl, ks, kc, ov⟩ := fun hm => by
    have := (h.own x5 hm).2
    have := hS.size
    omega
  refine au ?_
  refine pl_val _ rfl rfl (val_load1 hT rfl rfl rfl (h3.bk.cell rfl)) ?_
  refine pl_num (((m.next + 1 : Nat) : Int)) rfl rfl rfl rfl rfl (by simp only [ariP]; omega) ?_
  refine au ?_
  refine pl_op rfl rfl (opTo_storeN [.int .i64 ((m.next + 1 : Nat) : Int)] rfl rfl rfl rfl size_in h3.bk (by simp [beC, mC]) (one_in _) ?_)
  intro w4 hs4 hk4 hb4
  have t4 := h3.put (m' := { m with next := m.next + 1 }) (p' := p) hk4 hb4 rfl rfl rfl
  obtain ⟨hx4, hn4⟩ := t4.blk hn3 hb3
  have t := BwT.late hk03 t4
  have h4 := t.1
  have hb4 := h4.bk
  clear t4 hs4 hk4 hk3 hs3 hb3 h3 hb2 hk2 hs2 hS hcr hn3
  refine au ?_
  refine pl_val _ rfl rfl (val_load1 hT rfl rfl rfl (hx4.cell rfl)) ?_
  refine aub ?_
  refine pl_op rfl rfl (opTo_call (fst := []) (cap := []) rfl rfl rfl rfl (by decide +kernel) ((bPop_ret h4 (by show 0 < m.stack.length; omega) hst (topS m.stack) rfl).mono ?_))
  rintro v w5 ⟨rfl, s', t5⟩
  have tt := t.seq t5
  have h5 := tt.1
  obtain ⟨hx5', hn5⟩ := t5.blk hn4 hx4
  have hb5 := h5.bk
  clear hb4 hx4
  have e : exI inp (13, ((a : Nat) : Int), B, N) m p = ({ m with next := if topS m.stack = 0 then a else m.next + 1, stack := m.stack.dropLast }, p) := rfl
  rw [e]
  by_cases h0 : topS m.stack = 0
  · rw [if_pos h0]
    refine ye ?_
    refine au ?_
    refine pl_val _ rfl rfl (val_load1 hT rfl rfl rfl (hx5'.cell rfl)) ?_
    refine au ?_
    refine pl_op rfl rfl (opTo_storeN [.int .i64 ((a : Nat) : Int)] rfl rfl rfl rfl size_in hb5 (by simp [beC, mC]) (one_in _) ?_)
    intro wz hsz hkz hbz
    have tz := h5.put (m' := { m with next := a, stack := m.stack.dropLast }) (p' := p) hkz hbz rfl rfl rfl
    refine au ?_
    exact rn_ret Tryz.func40 (.inl ⟨_, rfl, rfl⟩) ⟨rfl, _, tt.seq tz⟩
  · rw [if_neg h0]
    refine nay ?_
    refine au ?_
    exact rn_ret Tryz.func40 (.inl ⟨_, rfl, rfl⟩) ⟨rfl, _, tt⟩

theorem bStep_jump {w0 w : World} {b : Nat} {W : List Is} {inp : List Int} {cv iv : Value} {r : Rws} {m k : Md} {p : Pr} (h : Bw w0 w b W inp cv iv r m k p) (hs : m.state = 0) {A B N : Int} (hx : W[m.next]? = some (14, A, B, N)) (hWl : W.length ≤ 1000000) (_ : m.stack.length ≤ 1000) (_ : m.cells.length ≤ 1000) (hA0 : 0 ≤ A) (q : Bool) :
    Ret Tryz.prog 40 [.pointer (some ⟨b, 0, none⟩), .bool q] w fun v w' => v = .bool true ∧ BwTo w0 w w' b W inp cv iv r (exI inp (14, A, B, N) m p).1 k (exI inp (14, A, B, N) m p).2 := by
  obtain ⟨a, rfl⟩ : ∃ a : Nat, A = (a : Nat) := ⟨A.toNat, by omega⟩
  obtain ⟨sv, cl, ks, kc, ov⟩ := r
  have hn : m.next < W.length := (List.getElem?_eq_some_iff.1 hx).1
  obtain ⟨cb, cq, ccap, hcv, hcF, hcr⟩ := h.cd.ins.at hx
  subst hcv
  refine ret_of 307 Tryz.func40 rfl rfl (by simp) ?_
  refine au ?_
  refine pl_val _ rfl rfl (val_load1 hT rfl rfl rfl (h.bk.cell rfl)) ?_
  refine nay ?_
  refine au ?_
  refine rn_draw (fun w' => Keep [] w w') [] hMix ?_
  have hS : Keep [] w w.drew := (Keep.refl _ _).drew
  generalize w.drew = w1 at *
  refine tk 0 ?_
  refine tk 1 ?_
  refine tk 2 ?_
  refine dr_val 3 (.slice (some ⟨cb, cq, none⟩) W.length ccap) rfl (by decide +kernel) rfl rfl (fun w9 hS9 => val_load1 hT rfl rfl rfl ((hS9.blk h.bk (by simp)).cell rfl)) hS ?_
  refine tk 4 ?_
  refine tk 5 ?_
  refine tk 6 ?_
  refine tk 7 ?_
  refine dr_val 8 (.int .i64 (m.next : Nat)) rfl (by decide +kernel) rfl rfl (fun w9 hS9 => val_load1 hT rfl rfl rfl ((hS9.blk h.bk (by simp)).cell rfl)) hS ?_
  refine dr_any 9 _ rfl (by decide +kernel) rfl rfl (fun w => val_index m.next hT rfl rfl rfl rfl rfl hn w) ?_
  refine dr_val 10 (.agg (iC (14, ((a : Nat) : Int), B, N)).toArray) rfl (by decide +kernel) rfl rfl (fun w9 hS9 => val_load (iC (14, ((a : Nat) : Int), B, N)) hT rfl rfl rfl (range_keep hcr hS9 hcF.2 (by simp))) hS ?_
  refine dr_op 11 rfl (by decide +kernel) rfl rfl (opTo_allocN _ rfl zero_ri ?_)
  intro w2 x5 hx5 hs2 hk2 hb2
  refine ⟨fun _ => hS.tr hk2, ?_⟩
  refine dr_op 12 rfl (by decide +kernel) rfl rfl (opTo_storeN (iC (14, ((a : Nat) : Int), B, N)) rfl rfl rfl rfl size_ri hb2 (by simp [iC]) (iC_one _) ?_)
  intro w3 hs3 hk3 hb3
  rw [splice_whole (by rfl)] at hb3
  have hk03 : Keep [] w w3 := hS.tr (hk2.trB hk3 (by omega))
  refine ⟨fun _ => hk03, ?_⟩
  refine dr_done (by decide +kernel) ?_
  have h3 := h.keep0 hk03
  have hn3 : x5 ∉ fpB b (.slice (some ⟨cb, cq, none⟩) W.length ccap) ⟨sv, cl, ks, kc, ov⟩ := fun hm => by
    have := (h.own x5 hm).2
    have := hS.size
    omega
  refine au ?_
  refine pl_val _ rfl rfl (val_load1 hT rfl rfl rfl (h3.bk.cell rfl)) ?_
  refine pl_num (((m.next + 1 : Nat) : Int)) rfl rfl rfl rfl rfl (by simp only [ariP]; omega) ?_
  refine au ?_
  refine pl_op rfl rfl (opTo_storeN [.int .i64 ((m.next + 1 : Nat) : Int)] rfl rfl rfl rfl size_in h3.bk (by simp [beC, mC]) (one_in _) ?_)
  intro w4 hs4 hk4 hb4
  have t4 := h3.put (m' := { m with next := m.next + 1 }) (p' := p) hk4 hb4 rfl rfl rfl
  obtain ⟨hx4, hn4⟩ := t4.blk hn3 hb3
  have t := BwT.late hk03 t4
  have h4 := t.1
  have hb4 := h4.bk
  clear t4 hs4 hk4 hk3 hs3 hb3 h3 hb2 hk2 hs2 hS hcr hn3
  refine au ?_
  refine pl_val _ rfl rfl (val_load1 hT rfl rfl rfl (hx4.cell rfl)) ?_
  refine aub ?_
  refine pl_op rfl rfl (opTo_storeN [.int .i64 ((a : Nat) : Int)] rfl rfl rfl rfl size_in hb4 (by simp [beC, mC]) (one_in _) ?_)
  intro wz hsz hkz hbz
  have tz := h4.put (m' := { m with next := a }) (p' := p) hkz hbz rfl rfl rfl
  refine au ?_
  have e : exI inp (14, ((a : Nat) : Int), B, N) m p = ({ m with next := a }, p) := rfl
  rw [e]
  exact rn_ret Tryz.func40 (.inl ⟨_, rfl, rfl⟩) ⟨rfl, _, t.seq tz⟩

theorem bStep_halt {w0 w : World} {b : Nat} {W : List Is} {inp : List Int} {cv iv : Value} {r : Rws} {m k : Md} {p : Pr} (h : Bw w0 w b W inp cv iv r m k p) (hs : m.state = 0) {A B N : Int} (hx : W[m.next]? = some (16, A, B, N)) (hWl : W.length ≤ 1000000) (_ : m.stack.length ≤ 1000) (_ : m.cells.length ≤ 1000) (q : Bool) :
    Ret Tryz.prog 40 [.pointer (some ⟨b, 0, none⟩), .bool q] w fun v w' => v = .bool true ∧ BwTo w0 w w' b W inp cv iv r (exI inp (16, A, B, N) m p).1 k (exI inp (16, A, B, N) m p).2 := by
  obtain ⟨sv, cl, ks, kc, ov⟩ := r
  have hn : m.next < W.length := (List.getElem?_eq_some_iff.1 hx).1
  obtain ⟨cb, cq, ccap, hcv, hcF, hcr⟩ := h.cd.ins.at hx
  subst hcv
  refine ret_of 307 Tryz.func40 rfl rfl (by simp) ?_
  refine au ?_
  refine pl_val _ rfl rfl (val_load1 hT rfl rfl rfl (h.bk.cell rfl)) ?_
  refine nay ?_
  refine au ?_
  refine rn_draw (fun w' => Keep [] w w') [] hMix ?_
  have hS : Keep [] w w.drew := (Keep.refl _ _).drew
  generalize w.drew = w1 at *
  refine tk 0 ?_
  refine tk 1 ?_
  refine tk 2 ?_
  refine dr_val 3 (.slice (some ⟨cb, cq, none⟩) W.length ccap) rfl (by decide +kernel) rfl rfl (fun w9 hS9 => val_load1 hT rfl rfl rfl ((hS9.blk h.bk (by simp)).cell rfl)) hS ?_
  refine tk 4 ?_
  refine tk 5 ?_
  refine tk 6 ?_
  refine tk 7 ?_
  refine dr_val 8 (.int .i64 (m.next : Nat)) rfl (by decide +kernel) rfl rfl (fun w9 hS9 => val_load1 hT rfl rfl rfl ((hS9.blk h.bk (by simp)).cell rfl)) hS ?_
  refine dr_any 9 _ rfl (by decide +kernel) rfl rfl (fun w => val_index m.next hT rfl rfl rfl rfl rfl hn w) ?_
  refine dr_val 10 (.agg (iC (16, A, B, N)).toArray) rfl (by decide +kernel) rfl rfl (fun w9 hS9 => val_load (iC (16, A, B, N)) hT rfl rfl rfl (range_keep hcr hS9 hcF.2 (by simp))) hS ?_
  refine dr_op 11 rfl (by decide +kernel) rfl rfl (opTo_allocN _ rfl zero_ri ?_)
  intro w2 x5 hx5 hs2 hk2 hb2
  refine ⟨fun _ => hS.tr hk2, ?_⟩
  refine dr_op 12 rfl (by decide +kernel) rfl rfl (opTo_storeN (iC (16, A, B, N)) rfl rfl rfl rfl size_ri hb2 (by simp [iC]) (iC_one _) ?_)
  intro w3 hs3 hk3 hb3
  rw [splice_whole (by rfl)] at hb3
  have hk03 : Keep [] w w3 := hS.tr (hk2.trB hk3 (by omega))
  refine ⟨fun _ => hk03, ?_⟩
  refine dr_done (by decide +kernel) ?_
  have h3 := h.keep0 hk03
  have hn3 : x5 ∉ fpB b (.slice (some ⟨cb, cq, none⟩) W.length ccap) ⟨sv, cl, ks, kc, ov⟩ := fun hm => by
    have := (h.own x5 hm).2
    have := hS.size
    omega
  refine au ?_
  refine pl_val _ rfl rfl (val_load1 hT rfl rfl rfl (h3.bk.cell rfl)) ?_
  refine pl_num (((m.next + 1 : Nat) : Int)) rfl rfl rfl rfl rfl (by simp only [ariP]; omega) ?_
  refine au ?_
  refine pl_op rfl rfl (opTo_storeN [.int .i64 ((m.next + 1 : Nat) : Int)] rfl rfl rfl rfl size_in h3.bk (by simp [beC, mC]) (one_in _) ?_)
  intro w4 hs4 hk4 hb4
  have t4 := h3.put (m' := { m with next := m.next + 1 }) (p' := p) hk4 hb4 rfl rfl rfl
  obtain ⟨hx4, hn4⟩ := t4.blk hn3 hb3
  have t := BwT.late hk03 t4
  have h4 := t.1
  have hb4 := h4.bk
  clear t4 hs4 hk4 hk3 hs3 hb3 h3 hb2 hk2 hs2 hS hcr hn3
  refine au ?_
  refine pl_val _ rfl rfl (val_load1 hT rfl rfl rfl (hx4.cell rfl)) ?_
  refine aub ?_
  refine pl_op rfl rfl (opTo_storeN [.int .i64 1] rfl rfl rfl rfl size_in hb4 (by simp [beC, mC]) (one_in _) ?_)
  intro wz hsz hkz hbz
  have tz := h4.put (m' := { m with next := m.next + 1, state := 1 }) (p' := p) hkz hbz rfl rfl rfl
  refine au ?_
  have e : exI inp (16, A, B, N) m p = ({ m with next := m.next + 1, state := 1 }, p) := rfl
  rw [e]
  exact rn_ret Tryz.func40 (.inl ⟨_, rfl, rfl⟩) ⟨rfl, _, t.seq tz⟩

theorem bStep_commit {w0 w : World} {b : Nat} {W : List Is} {inp : List Int} {cv iv : Value} {r : Rws} {m k : Md} {p : Pr} (h : Bw w0 w b W inp cv iv r m k p) (hs : m.state = 0) {A B N : Int} (hx : W[m.next]? = some (15, A, B, N)) (hWl : W.length ≤ 1000000) (hst : m.stack.length ≤ 1000) (hcl : m.cells.length ≤ 1000) (q : Bool) :
    Ret Tryz.prog 40 [.pointer (some ⟨b, 0, none⟩), .bool q] w fun v w' => v = .bool true ∧ BwTo w0 w w' b W inp cv iv r (exI inp (15, A, B, N) m p).1 (if q then (exI inp (15, A, B, N) m p).1 else k) (exI inp (15, A, B, N) m p).2 := by
  obtain ⟨sv, cl, ks, kc, ov⟩ := r
  have hn : m.next < W.length := (List.getElem?_eq_some_iff.1 hx).1
  obtain ⟨cb, cq, ccap, hcv, hcF, hcr⟩ := h.cd.ins.at hx
  subst hcv
  refine ret_of 307 Tryz.func40 rfl rfl (by simp) ?_
  refine au ?_
  refine pl_val _ rfl rfl (val_load1 hT rfl rfl rfl (h.bk.cell rfl)) ?_
  refine nay ?_
  refine au ?_
  refine rn_draw (fun w' => Keep [] w w') [] hMix ?_
  have hS : Keep [] w w.drew := (Keep.refl _ _).drew
  generalize w.drew = w1 at *
  refine tk 0 ?_
  refine tk 1 ?_
  refine tk 2 ?_
  refine dr_val 3 (.slice (some ⟨cb, cq, none⟩) W.length ccap) rfl (by decide +kernel) rfl rfl (fun w9 hS9 => val_load1 hT rfl rfl rfl ((hS9.blk h.bk (by simp)).cell rfl)) hS ?_
  refine tk 4 ?_
  refine tk 5 ?_
  refine tk 6 ?_
  refine tk 7 ?_
  refine dr_val 8 (.int .i64 (m.next : Nat)) rfl (by decide +kernel) rfl rfl (fun w9 hS9 => val_load1 hT rfl rfl rfl ((hS9.blk h.bk (by simp)).cell rfl)) hS ?_
  refine dr_any 9 _ rfl (by decide +kernel) rfl rfl (fun w => val_index m.next hT rfl rfl rfl rfl rfl hn w) ?_
  refine dr_val 10 (.agg (iC (15, A, B, N)).toArray) rfl (by decide +kernel) rfl rfl (fun w9 hS9 => val_load (iC (15, A, B, N)) hT rfl rfl rfl (range_keep hcr hS9 hcF.2 (by simp))) hS ?_
  refine dr_op 11 rfl (by decide +kernel) rfl rfl (opTo_allocN _ rfl zero_ri ?_)
  intro w2 x5 hx5 hs2 hk2 hb2
  refine ⟨fun _ => hS.tr hk2, ?_⟩
  refine dr_op 12 rfl (by decide +kernel) rfl rfl (opTo_storeN (iC (15, A, B, N)) rfl rfl rfl rfl size_ri hb2 (by simp [iC]) (iC_one _) ?_)
  intro w3 hs3 hk3 hb3
  rw [splice_whole (by rfl)] at hb3
  have hk03 : Keep [] w w3 := hS.tr (hk2.trB hk3 (by omega))
  refine ⟨fun _ => hk03, ?_⟩
  refine dr_done (by decide +kernel) ?_
  have h3 := h.keep0 hk03
  have hn3 : x5 ∉ fpB b (.slice (some ⟨cb, cq, none⟩) W.length ccap) ⟨sv, cl, ks, kc, ov⟩ := fun hm => by
    have := (h.own x5 hm).2
    have := hS.size
    omega
  refine au ?_
  refine pl_val _ rfl rfl (val_load1 hT rfl rfl rfl (h3.bk.cell rfl)) ?_
  refine pl_num (((m.next + 1 : Nat) : Int)) rfl rfl rfl rfl rfl (by simp only [ariP]; omega) ?_
  refine au ?_
  refine pl_op rfl rfl (opTo_storeN [.int .i64 ((m.next + 1 : Nat) : Int)] rfl rfl rfl rfl size_in h3.bk (by simp [beC, mC]) (one_in _) ?_)
  intro w4 hs4 hk4 hb4
  have t4 := h3.put (m' := { m with next := m.next + 1 }) (p' := p) hk4 hb4 rfl rfl rfl
  obtain ⟨hx4, hn4⟩ := t4.blk hn3 hb3
  have t := BwT.late hk03 t4
  have h4 := t.1
  have hb4 := h4.bk
  clear t4 hs4 hk4 hk3 hs3 hb3 h3 hb2 hk2 hs2 hS hcr hn3
  refine au ?_
  refine pl_val _ rfl rfl (val_load1 hT rfl rfl rfl (hx4.cell rfl)) ?_
  refine aub ?_
  have e : exI inp (15, A, B, N) m p = ({ m with next := m.next + 1 }, p) := rfl
  rw [e]
  cases q with
  | false =>
    refine au ?_
    exact rn_ret Tryz.func40 (.inl ⟨_, rfl, rfl⟩) ⟨rfl, _, t⟩
  | true =>
    refine au ?_
    refine pl_val (.agg (mC { m with next := m.next + 1 } sv cl).toArray) rfl rfl (val_load (mC { m with next := m.next + 1 } sv cl) hT rfl rfl rfl (hb4.range (by rfl))) ?_
    refine pl_op rfl rfl (opTo_call (fst := []) (cap := []) rfl rfl rfl rfl (by decide +kernel) ((mindCopy_ret (m := { m with next := m.next + 1 }) h4.rs.lies h4.rc.lies ⟨hst, hcl⟩).mono ?_))
    rintro v w5 ⟨s', c', rfl, hrs, hrc, hap, hk5⟩
    obtain ⟨s2, _⟩ := slice_one1 hrs.form
    obtain ⟨c2, _⟩ := slice_one1 hrc.form
    refine au ?_
    refine pl_op rfl rfl (opTo_storeN (mC { m with next := m.next + 1 } s' c') rfl rfl rfl rfl size_md (hk5.blk hb4 (by simp)) (by simp [beC, mC]) (mC_one s2 c2) ?_)
    intro wz hsz hkz hbz
    have tz := h4.putK hk5 hrs hrc hap hkz hbz
    refine au ?_
    exact rn_ret Tryz.func40 (.inl ⟨_, rfl, rfl⟩) ⟨rfl, _, t.seq tz⟩

theorem bStep_off {w0 w : World} {b : Nat} {W : List Is} {inp : List Int} {cv iv : Value} {r : Rws} {m k : Md} {p : Pr} (h : Bw w0 w b W inp cv iv r m k p) (hs : m.state ≠ 0) (q : Bool) :
    Ret Tryz.prog 40 [.pointer (some ⟨b, 0, none⟩), .bool q] w fun v w' => v = .bool false ∧ w' = w := by
  refine ret_of 307 Tryz.func40 rfl rfl (by simp) ?_
  refine au ?_
  refine pl_val _ rfl rfl (val_load1 hT rfl rfl rfl (h.bk.cell rfl)) ?_
  refine ye ?_
  refine au ?_
  exact rn_ret Tryz.func40 (.inl ⟨_, rfl, rfl⟩) ⟨rfl, rfl⟩
end E
end Go.Proofs.YtmplkogkphmmjafGreat
