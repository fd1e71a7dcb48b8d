/- Several texts in one: LfE, LiftI, LiftX, LwA, RfA, DiskA, DiskB, DiskC, DiskD, DiskE, Sect, StoA. -/
import Derived.Test.YtmplkogkphmmjagGreatJ06
import Derived.Test.YtmplkogkphmmjagGreatJ04
import Derived.Test.YtmplkogkphmmjagGreatJ03
import Derived.Test.YtmplkogkphmmjagGreatJ05
import Derived.Test.YtmplkogkphmmjagGreatJ01
/- The law LifeAgain, walked from what is to be shown of package life; what a step leaves true. -/
namespace Go.Proofs.YtmplkogkphmmjagGreat
set_option maxRecDepth 20000
set_option maxHeartbeats 4000000
namespace E
open Go.Proofs

/-- What is known of steps as they are read. -/
def SpOk (s : Sp) : Prop := s.2.1 < 9223372036854775808 ∧ s.2.2.1 < 9223372036854775808 ∧ s.2.2.2 < 18446744073709551616
section
variable {nw : List Is → List Int → Md → List Int → List Int} {vs : List VarT} {body : List ST} {inp : List Int} {z : Lz} {i : Nat}
theorem invZ0 (vs : List VarT) (body : List ST) (inp : List Int) : InvZ vs body inp (lz0 (sumV vs).toNat) 0 := ⟨⟨Int.le_refl _, Int.le_refl _⟩, 0, Nat.le_refl _, invL0⟩
theorem InvZ.mono (h : InvZ vs body inp z i) {j : Nat} (hij : i ≤ j) : InvZ vs body inp z j := let ⟨⟨a, b⟩, g, h1, h2⟩ := h; ⟨⟨a, by omega⟩, g, Nat.le_trans h1 hij, h2⟩
theorem doZS_le (s : Sp) (z : Lz) : (doZS nw (insP vs body) inp s z).2 ≤ (if 0 < s.2.1 ∧ s.2.1 ≤ 3000 then s.2.1.toNat else 0) := by
  unfold doZS
  by_cases hf : spFault s = 0
  · rw [if_pos hf, (doZ_lf _ _ _ z).2]
    by_cases h2 : s.1 = 2
    · unfold doL
      rw [if_pos h2]
      exact Nat.zero_le _
    · have hN : 0 ≤ s.2.1 ∧ s.2.1 ≤ 3000 := by
        unfold spFault at hf
        split at hf
        · omega
        · split at hf
          · omega
          · rename_i h1 h3
            constructor
            · exact Int.not_lt.1 fun h => h3 (.inl ⟨h2, .inl h⟩)
            · exact Int.not_lt.1 fun h => h3 (.inl ⟨h2, .inr h⟩)
      have := doL_le (insP vs body) inp s.1 s.2.1.toNat (spKeep s) z.lf
      split <;> omega
  · rw [if_neg hf]
    exact Nat.zero_le _
theorem InvZ.step (h : InvZ vs body inp z i) (s : Sp) : InvZ vs body inp (doZS nw (insP vs body) inp s z).1 (i + (doZS nw (insP vs body) inp s z).2) := by
  obtain ⟨⟨k1, k2⟩, g, h1, h2⟩ := h
  unfold doZS
  by_cases hf : spFault s = 0
  · rw [if_pos hf]
    obtain ⟨e1, e2⟩ := doZ_lf (nw := nw) (L := insP vs body) (inp := inp) s.1 s.2.1.toNat (spKeep s) z
    obtain ⟨g', a1, a2, a3⟩ := h2.does s.1 s.2.1.toNat (spKeep s)
    obtain ⟨k3, k4⟩ := doZ_gen (nw := nw) (L := insP vs body) (inp := inp) s.1 s.2.1.toNat (spKeep s) z
    refine ⟨⟨by omega, by omega⟩, g', by rw [e2]; omega, ?_⟩
    rw [e1]
    exact a3
  · rw [if_neg hf]
    exact ⟨⟨k1, by simp only; omega⟩, g, by omega, h2⟩
theorem InvZ.stepN (h : InvZ vs body inp z i) (s : Sp) : InvZ vs body inp (doZS nw (insP vs body) inp s z).1 (i + (if 0 < s.2.1 ∧ s.2.1 ≤ 3000 then s.2.1.toNat else 0)) := (h.step s).mono (Nat.add_le_add_left (doZS_le s z) i)
theorem crash_Z (mask : Nat) (z : Lz) : doZS nw (insP vs body) inp (2, 0, 0, mask) z = (wakeZ z, 0) := rfl
/-- What was printed, and the cells, are not too many. -/
theorem InvZ.bnd (h : InvZ vs body inp z i) (hpf : progFault vs body = 0) (hsz : szSs body ≤ 1000) : z.lf.p.1.length ≤ i ∧ z.lf.m.cells.length ≤ 48 ∧ z.lf.p.2 = false := by
  obtain ⟨_, g, h1, a, b, e1, e2, e3, _, _⟩ := h
  obtain ⟨c, hc, h48, hP⟩ := prog_prg hpf hsz
  have hcc : c = (sumV vs).toNat := by omega
  obtain ⟨_, b2, _⟩ := pu_bounds (W := insP vs body) (inp := inp) (c := (sumV vs).toNat) g
  have hf := pu_fit (inp := inp) hP.sim hP.jmp a
  rw [hcc] at hf
  have hcl := hf.cells
  refine ⟨by rw [e3]; omega, ?_, by rw [e3]; exact (pu_out g).2⟩
  have : ((z.lf.m.cells.length : Nat) : Int) = ((sumV vs).toNat : Nat) := by rw [e1]; exact hcl
  omega
end
theorem cell_keep {w w' : World} {b i : Nat} {v : Value} (hk : Keep [] w w') (hc : w.cell? ⟨b, i, none⟩ = some v) : w'.cell? ⟨b, i, none⟩ = some v := by
  have hb : b < w.heap.size := by
    rcases Nat.lt_or_ge b w.heap.size with h | h
    · exact h
    · exfalso
      have hn : w.heap[b]? = none := Array.getElem?_eq_none h
      simp [World.cell?, hn] at hc
  rw [World.cell?_of_block (w := w) (hk.block b hb (by simp))]
  exact hc
/-- It does not lie in block g. -/
def NotIn (v : Value) (g : Nat) : Prop := ∀ b q n c, v = .slice (some ⟨b, q, none⟩) n c → 0 < n → b ≠ g
theorem LsV.notNew {w : World} {v : Value} {l : List Int} {g : Nat} (h : LsV w v l) (hg : g = w.heap.size) : NotIn v g := fun b q n c he h0 => by
  obtain ⟨a, k, rfl, h2⟩ := h
  injection he with e1 e2 e3
  subst e1 e2 e3
  obtain ⟨b', q', e, h3, _⟩ := h2 h0
  cases e
  omega
theorem Nw.notOld {w : World} {v : Value} {g : Nat} (h : Nw w v) (hg : g < w.heap.size) : NotIn v g := fun b q n c he h0 => by
  have := h b q n c he h0
  omega
theorem LsV.keepN {w w' : World} {v : Value} {l : List Int} {g : Nat} (h : LsV w v l) (hk : Keep [g] w w') (hn : NotIn v g) : LsV w' v l := by
  obtain ⟨a, k, rfl, h2⟩ := h
  refine ⟨a, k, rfl, fun h0 => ?_⟩
  obtain ⟨b, q, rfl, h3, h4⟩ := h2 h0
  exact ⟨b, q, rfl, Nat.lt_of_lt_of_le h3 hk.size, range_keep h4 hk h3 (by simpa using hn b q _ k rfl h0)⟩
theorem LsV.keepW {w0 w w' : World} {v : Value} {l : List Int} {fp : List Nat} (h : LsV w v l) (hk : Keep fp w w') (hn : Nw w0 v) (hf : ∀ k ∈ fp, k < w0.heap.size) : LsV w' v l := by
  obtain ⟨a, k, rfl, h2⟩ := h
  refine ⟨a, k, rfl, fun h0 => ?_⟩
  obtain ⟨b, q, rfl, h3, h4⟩ := h2 h0
  refine ⟨b, q, rfl, Nat.lt_of_lt_of_le h3 hk.size, range_keep h4 hk h3 fun hm => ?_⟩
  have h5 := hn b q _ k rfl h0
  have h6 := hf b hm
  omega
theorem Nw.low {w w' : World} {v : Value} (h : Nw w' v) (hk : w.heap.size ≤ w'.heap.size) : Nw w v := fun b q n c he h0 => Nat.le_trans hk (h b q n c he h0)
theorem LsV.form {w : World} {v : Value} {l : List Int} (h : LsV w v l) : ∃ a k, v = .slice a l.length k := let ⟨a, k, h, _⟩ := h; ⟨a, k, h⟩
theorem built_cr (m : Nat) : Tryz.prog.built 37 [(0, .int .i64 2), (3, .int .u64 (m : Nat))] = some (spC (2, 0, 0, m)).toArray := by kernel_rfl

theorem lifeAgain_ret {nw : List Is → List Int → Md → List Int → List Int} {LV : List VarT → List ST → List Int → Nat → World → Nat → List Nat → Lz → Prop} (I : LfI nw LV) {w : World} {x iv lv : Value} {vs : List VarT} {body : List ST} {inp : List Int} {l : List Sp}
    (h : ProgV (fun b => b < w.heap.size) w x vs body) (hi : LsC w iv inp) (hl : SpV w lv l) (hlo : ∀ s ∈ l, SpOk s) (ma mb : Nat) (hma : ma < 18446744073709551616) (hmb : mb < 18446744073709551616) :
    Ret Tryz.prog 4 [x, iv, lv, .int .u64 (ma : Nat), .int .u64 (mb : Nat)] w fun r w' => r = .bool true ∧ Keep [] w w' := by
  have hF : In (fun b => b < w.heap.size) w := fun c hc => hc
  have hh := h
  obtain ⟨vv, bv, rfl, hv, hb⟩ := h
  obtain ⟨av, capv, rfl⟩ := hv.form
  obtain ⟨ab, capb, rfl⟩ := hb.form
  have hic := hi
  obtain ⟨⟨ia, icap, rfl, _⟩, _⟩ := hi
  obtain ⟨la, lcap, rfl⟩ := hl.form
  refine ret_of 103 Tryz.func4 rfl rfl (by simp) ?_
  refine au ?_
  refine pl_op rfl rfl (opTo_boxN [.slice av vs.length capv, .slice ab body.length capb] rfl rfl rfl ?_)
  intro w1 p hp0 hs1 hk1 hp1
  refine au ?_
  refine pl_op rfl rfl (opTo_call (fst := []) (cap := []) rfl rfl rfl rfl (by decide +kernel) ((lifeBegun_ret I w1).mono ?_))
  rintro r w2 ⟨rfl, hk2⟩
  have hk02 := hk1.tr hk2
  have hp2 := hk2.blk hp1 (by simp)
  refine au ?_
  refine pl_val _ rfl rfl (val_load [.slice av vs.length capv, .slice ab body.length capb] hT rfl rfl rfl (hp2.range (by rfl))) ?_
  refine au ?_
  refine pl_op rfl rfl (opTo_call (fst := []) (cap := []) rfl rfl rfl rfl (by decide +kernel) ((greatLife_ret (hh.keep hk02 hF.stays) (hF.keep hk02) ⟨ia, icap, rfl⟩ (hl.keep0 hk02)).mono ?_))
  rintro r w3 ⟨⟨g, rfl, hg⟩, hk3⟩
  have hk03 := hk02.tr hk3
  have hp3 := hk3.blk hp2 (by simp)
  cases g with
  | true =>
    refine au ?_
    exact rn_ret Tryz.func4 (.inl ⟨_, rfl, rfl⟩) ⟨rfl, hk03⟩
  | false =>
    obtain ⟨h30, hnm, hsz, hil, hll, hns⟩ := hg rfl
    refine au ?_
    refine pl_val _ rfl rfl (val_load [.slice av vs.length capv, .slice ab body.length capb] hT rfl rfl rfl (hp3.range (by rfl))) ?_
    refine au ?_
    refine pl_op rfl rfl (opTo_call (fst := []) (cap := []) rfl rfl rfl rfl (by decide +kernel) ((I.new (hh.keep hk03 hF.stays) (hF.keep hk03) (hic.keep0 hk03) (by omega) (by omega) (by omega)).mono ?_))
    rintro r w4 ⟨⟨pv, rfl, hnew⟩, hk4⟩
    have hk04 := hk03.tr hk4
    refine au ?_
    by_cases hc0 : ¬ newF vs body inp = 0
    · refine ye ?_
      refine au ?_
      exact rn_ret Tryz.func4 (.inl ⟨_, rfl, rfl⟩) ⟨rfl, hk04⟩
    replace hc0 : newF vs body inp = 0 := by omega
    obtain ⟨y, fp, rfl, hy4⟩ := hnew hc0
    have hpf : progFault vs body = 0 := by
      unfold newF at hc0
      split at hc0
      · assumption
      · exact hc0
    have hin : inp.length ≤ 40 := by
      unfold newF at hc0
      rw [if_pos hpf] at hc0
      split at hc0
      · assumption
      · cases hc0
    have hBw : w.heap.size ≤ w3.heap.size := hk03.size
    rw [hc0]
    refine nay ?_
    refine au ?_
    refine rn_ind (fun q σ w' => ∃ (i : Nat) (fp' : List Nat) (z : Lz), i ≤ l.length ∧ q = l.length - i ∧ σ = [(2, .slice la l.length lcap), (3, .int .u64 (ma : Nat)), (4, .int .u64 (mb : Nat)), (11, .pointer (some ⟨y, 0, none⟩)), (13, .int .i64 (i : Nat))] ∧ LV vs body inp w3.heap.size w' y fp' z ∧ InvZ vs body inp z (nSum (l.take i)) ∧ Keep [] w w') l.length _ ?_ ⟨0, fp, _, by omega, by omega, rfl, hy4, invZ0 vs body inp, hk04⟩ ?_
    · exact ⟨rfl, rfl, rfl, rfl, rfl, trivial⟩
    rintro q σ w5 ih ⟨i, fp5, z, hi5, rfl, rfl, hy5, hz5, hk05⟩
    have hns5 := nSum_take_le l i
    refine au ?_
    by_cases hlt : i < l.length
    · refine ye ?_
      have hxi : l[i]? = some l[i] := List.getElem?_eq_getElem hlt
      obtain ⟨sb, sq, scap, hv', hra⟩ := (hl.keep0 hk05).at hxi
      cases hv'
      obtain ⟨o1, o2, o3⟩ := hlo l[i] (List.getElem_mem _)
      have hsn := nSum_take hxi
      refine au ?_
      refine pl_val _ rfl rfl (val_index i hT rfl rfl rfl rfl rfl hlt w5) ?_
      refine pl_val (.agg (spC l[i]).toArray) rfl rfl (val_load (spC l[i]) hT rfl rfl rfl hra) ?_
      refine pl_op rfl rfl (opTo_call (fst := []) (cap := []) rfl rfl rfl rfl (by decide +kernel) ((I.does l[i] hy5 hz5 (by omega) hpf (by omega) hin o1 o2 o3).mono ?_))
      rintro r w6 ⟨rfl, fp6, hy6, hk6, hf6⟩
      have hz6 := hz5.stepN (nw := nw) l[i]
      rw [← hsn] at hz6
      refine au ?_
      refine pl_num (((i + 1 : Nat) : Int)) rfl rfl rfl rfl rfl (by simp only [ariP]; omega) ?_
      refine au ?_
      refine rn_sub ?_ (ih (l.length - (i + 1)) _ w6 (by omega) ⟨i + 1, fp6, _, by omega, rfl, rfl, hy6, hz6, I.low hy5 hk05 hBw hk6⟩)
      exact ⟨rfl, rfl, rfl, rfl, rfl, trivial⟩
    · refine nay ?_
      have hz5' : InvZ vs body inp z 6000 := hz5.mono (by omega)
      obtain ⟨xm, mm, sm, cy, cx, cm⟩ := I.mach hy5
      refine au ?_
      refine pl_val _ rfl rfl (val_load1 hT rfl rfl rfl (cy)) ?_
      refine au ?_
      refine pl_val _ rfl rfl (val_load1 hT rfl rfl rfl (cx)) ?_
      refine au ?_
      refine pl_val _ rfl rfl (val_load1 hT rfl rfl rfl (cm)) ?_
      refine pl_op rfl rfl (opTo_call (fst := []) (cap := []) rfl rfl rfl rfl (by decide +kernel) ((I.gen hy5 cy cx cm).mono ?_))
      rintro r w6 ⟨rfl, hk6⟩
      have hy6 := I.keep0 hy5 hk6
      refine au ?_
      refine pl_val _ rfl rfl (val_build _ rfl rfl (built_cr ma) w6) ?_
      refine pl_op rfl rfl (opTo_call (fst := []) (cap := []) rfl rfl rfl rfl (by decide +kernel) ((I.does (2, 0, 0, ma) hy6 hz5' (by omega) hpf (by omega) hin (show (0 : Int) < 9223372036854775808 by decide) (show (0 : Int) < 9223372036854775808 by decide) hma).mono ?_))
      rintro r w7 ⟨rfl, fp7, hy7, hk7, hf7⟩
      rw [crash_Z] at hy7
      have hz7 : InvZ vs body inp (wakeZ z) 6000 := hz5'.step (nw := nw) (2, 0, 0, ma)
      have hk07 := I.low hy6 (hk05.tr hk6) hBw hk7
      obtain ⟨bo, bc, bp⟩ := hz7.bnd hpf (by omega)
      refine au ?_
      obtain ⟨C, hCe⟩ : ∃ C, C = codeB (wakeZ z).lf.m (wakeZ z).lf.p := ⟨_, rfl⟩
      obtain ⟨O, hOe⟩ : ∃ O, O = (wakeZ z).lf.p.1 := ⟨_, rfl⟩
      obtain ⟨L, hLe⟩ : ∃ L, L = (wakeZ z).lf.m.cells := ⟨_, rfl⟩
      have hnow : ∀ {wa : World} {fpa : List Nat}, LV vs body inp w3.heap.size wa y fpa (wakeZ z) → Ret Tryz.prog 11 [.pointer (some ⟨y, 0, none⟩)] wa fun r w' => (∃ ov cv, r = .agg (resC C ov cv).toArray ∧ LsV w' ov O ∧ LsV w' cv L ∧ Nw wa ov ∧ Nw wa cv) ∧ Keep [] wa w' := fun {wa fpa} ha => by
        rw [hCe, hOe, hLe]
        refine (I.now ha hz7 (by omega) hpf (by omega)).mono ?_
        rintro r w' ⟨⟨ov, cv, e, h1, h2, h3, h4⟩, hk⟩
        exact ⟨⟨ov, cv, e, h1.1, h2, h3, h4⟩, hk⟩
      rw [← hOe] at bo
      rw [← hLe] at bc
      refine rn_draw (fun w' => Keep [] w7 w') [] hMix ?_
      have hS : Keep [] w7 w7.drew := (Keep.refl _ _).drew
      generalize w7.drew = w8 at *
      obtain ⟨xm7, mm7, sm7, cy7, cx7, cm7⟩ := I.mach hy7
      have hcell : ∀ {wa : World} {b i : Nat} {v : Value}, Keep [] w7 wa → w7.cell? ⟨b, i, none⟩ = some v → wa.cell? ⟨b, i, none⟩ = some v := fun {wa b i v} hk hc => cell_keep hk hc
      refine dr_with 2 2047 (fun σ' w' => ∃ g ov cv wl, Blk w' g (resC 0 (.slice none 0 0) (.slice none 0 0)) 45 ∧ w7.heap.size ≤ g ∧ NotIn ov g ∧ NotIn cv g ∧ NotIn wl g ∧ LsV w' ov O ∧ LsV w' cv L ∧ LsV w' wl z.KW ∧ z.KW.length = 112 ∧ (∃ a k, ov = .slice a O.length k) ∧ (∃ a k, cv = .slice a L.length k) ∧ (∃ a k, wl = .slice a z.KW.length k) ∧ Nw w7 ov ∧ Nw w7 cv ∧ Nw w7 wl ∧ Keep [] w7 w' ∧ Sub [(4, .int .u64 (mb : Nat)), (11, .pointer (some ⟨y, 0, none⟩)), (14, .int .i64 z.gen), (15, .pointer (some ⟨g, 0, none⟩)), (59, .agg (resC C ov cv).toArray), (67, wl)] σ') ?_ ?_
      · rintro σ' w9 ⟨g, ov, cv, wl, hg9, hgw, no, nc, nl, hov9, hcv9, hwl9, h112, ⟨oa, ok, rfl⟩, ⟨ca, ck, rfl⟩, ⟨wa, wk, rfl⟩, m1, m2, m3, hS9, hsub⟩
        refine dr_sub hsub ?_
        refine dr_op 11 rfl (by decide +kernel) rfl rfl (opTo_storeN (resC C (.slice oa O.length ok) (.slice ca L.length ck)) rfl rfl rfl rfl size_re hg9 (by simp [resC]) (resC_one _ _ _ _ _ _ _) ?_)
        intro w10 hs10 hk10 hb10
        rw [splice_whole (by rfl)] at hb10
        have hk710 := hS9.trB hk10 hgw
        refine ⟨fun _ => hk710, ?_⟩
        refine tk 12 ?_
        refine dr_done (by decide +kernel) ?_
        have hov10 := hov9.keepN hk10 no
        have hcv10 := hcv9.keepN hk10 nc
        have hwl10 := hwl9.keepN hk10 nl
        have hy10 := I.keep0 hy7 hk710
        refine au ?_
        refine pl_val _ rfl rfl (val_build _ rfl rfl (built_cr mb) w10) ?_
        refine pl_op rfl rfl (opTo_call (fst := []) (cap := []) rfl rfl rfl rfl (by decide +kernel) ((I.does (2, 0, 0, mb) hy10 hz7 (by omega) hpf (by omega) hin (show (0 : Int) < 9223372036854775808 by decide) (show (0 : Int) < 9223372036854775808 by decide) hmb).mono ?_))
        rintro r w11 ⟨rfl, fp11, hy11, hk11, hf11⟩
        rw [crash_Z, wakeZ_twice] at hy11
        have hlt7 : ∀ k ∈ fp7, k < w7.heap.size := fun k hk => (I.lt hy7 k hk).2
        have hb11 := hk11.blk hb10 (fun hm => by have := hlt7 g hm; omega)
        have hov11 := hov10.keepW hk11 m1 hlt7
        have hcv11 := hcv10.keepW hk11 m2 hlt7
        have hwl11 := hwl10.keepW hk11 m3 hlt7
        have hk011 := I.low hy10 (hk07.tr hk710) hBw hk11
        obtain ⟨xn, mn, sn, cy9, cx9, cm9⟩ := I.mach hy11
        refine au ?_
        refine rn_draw (fun w' => Keep [] w11 w') [] hMix ?_
        have hT0 : Keep [] w11 w11.drew := (Keep.refl _ _).drew
        generalize w11.drew = w12 at *
        refine dr_val 0 (.agg (resC C (.slice oa O.length ok) (.slice ca L.length ck)).toArray) rfl (by decide +kernel) rfl rfl (fun w9 hS9 => val_load (resC C (.slice oa O.length ok) (.slice ca L.length ck)) hT rfl rfl rfl ((hS9.blk hb11 (by simp)).range (by rfl))) hT0 ?_
        refine tk 1 ?_
        refine dr_op 2 rfl (by decide +kernel) rfl rfl (opTo_call (fst := []) (cap := []) rfl rfl rfl rfl (by decide +kernel) ((hnow (I.keep0 hy11 hT0)).mono ?_))
        rintro r w13 ⟨⟨ov2, cv2, rfl, hov13, hcv13, _, _⟩, hk13⟩
        obtain ⟨oa2, ok2, rfl⟩ := hov13.form
        obtain ⟨ca2, ck2, rfl⟩ := hcv13.form
        have hT13 := hT0.tr hk13
        refine ⟨fun _ => hT13, ?_⟩
        refine dr_op 3 rfl (by decide +kernel) rfl rfl (opTo_call (fst := []) (cap := []) rfl rfl rfl rfl (by decide +kernel) ((sameRes_ret C (hov11.keep0 hT13) (hcv11.keep0 hT13) hov13 hcv13 (by omega) (by omega)).mono ?_))
        rintro r w14 ⟨rfl, hk14⟩
        have hT14 := hT13.tr hk14
        refine ⟨fun _ => hT14, ?_⟩
        refine tk 4 ?_
        refine tk 5 ?_
        refine tk 6 ?_
        refine tk 7 ?_
        refine tk 8 ?_
        refine dr_val 9 (.pointer (some ⟨xn, 0, none⟩)) rfl (by decide +kernel) rfl rfl (fun w9 hS9 => val_load1 hT rfl rfl rfl (cell_keep hS9 cy9)) hT14 ?_
        refine tk 10 ?_
        refine tk 11 ?_
        refine dr_val 12 (.pointer (some ⟨mn, 0, none⟩)) rfl (by decide +kernel) rfl rfl (fun w9 hS9 => val_load1 hT rfl rfl rfl (cell_keep hS9 cx9)) hT14 ?_
        refine dr_op 13 rfl (by decide +kernel) rfl rfl (opTo_call (fst := []) (cap := []) rfl rfl rfl rfl (by decide +kernel) ((I.all (I.keep0 hy11 hT14) (cell_keep hT14 cy9) (cell_keep hT14 cx9)).mono ?_))
        rintro r w15 ⟨hwl15, _, _, hk15⟩
        have hwl15 : LsV w15 r z.KW := hwl15
        have hT15 := hT14.tr hk15
        refine ⟨fun _ => hT15, ?_⟩
        refine dr_op 14 rfl (by decide +kernel) rfl rfl (opTo_call (fst := []) (cap := []) rfl rfl rfl rfl (by decide +kernel) ((sameLs_ret (hwl11.keep0 hT15) hwl15 (by omega)).mono ?_))
        rintro r w16 ⟨rfl, hk16⟩
        have hT16 := hT15.tr hk16
        refine ⟨fun _ => hT16, ?_⟩
        refine tk 15 ?_
        refine tk 16 ?_
        refine tk 17 ?_
        refine tk 18 ?_
        refine tk 19 ?_
        refine tk 20 ?_
        refine dr_val 21 (.pointer (some ⟨xn, 0, none⟩)) rfl (by decide +kernel) rfl rfl (fun w9 hS9 => val_load1 hT rfl rfl rfl (cell_keep hS9 cy9)) hT16 ?_
        refine tk 22 ?_
        refine tk 23 ?_
        refine dr_val 24 (.pointer (some ⟨mn, 0, none⟩)) rfl (by decide +kernel) rfl rfl (fun w9 hS9 => val_load1 hT rfl rfl rfl (cell_keep hS9 cx9)) hT16 ?_
        refine tk 25 ?_
        refine tk 26 ?_
        refine dr_val 27 (.pointer (some ⟨sn, 0, none⟩)) rfl (by decide +kernel) rfl rfl (fun w9 hS9 => val_load1 hT rfl rfl rfl (cell_keep hS9 cm9)) hT16 ?_
        refine dr_op 28 rfl (by decide +kernel) rfl rfl (opTo_call (fst := []) (cap := []) rfl rfl rfl rfl (by decide +kernel) ((I.gen (I.keep0 hy11 hT16) (cell_keep hT16 cy9) (cell_keep hT16 cx9) (cell_keep hT16 cm9)).mono ?_))
        rintro r w17 ⟨rfl, hk17⟩
        have hT17 := hT16.tr hk17
        refine ⟨fun _ => hT17, ?_⟩
        have hge : (wakeZ z).gen = z.gen := rfl
        rw [hge]
        refine dye 29 ?_
        refine tk 30 ?_
        refine tk 31 ?_
        refine dr_done (by decide +kernel) ?_
        refine au ?_
        exact rn_ret Tryz.func4 (.inl ⟨_, rfl, rfl⟩) ⟨rfl, hk011.tr hT17⟩
      intro fin
      refine tk 0 ?_
      refine tk 2 ?_
      refine tk 3 ?_
      refine tk 4 ?_
      refine dr_val 5 (.pointer (some ⟨xm7, 0, none⟩)) rfl (by decide +kernel) rfl rfl (fun w9 hS9 => val_load1 hT rfl rfl rfl (hcell hS9 cy7)) hS ?_
      refine tk 6 ?_
      refine tk 7 ?_
      refine dr_val 8 (.pointer (some ⟨mm7, 0, none⟩)) rfl (by decide +kernel) rfl rfl (fun w9 hS9 => val_load1 hT rfl rfl rfl (hcell hS9 cx7)) hS ?_
      have hall : ∀ {wa : World}, Keep [] w7 wa → Ret Tryz.prog 14 [.pointer (some ⟨mm7, 0, none⟩)] wa fun r w' => LsV w' r z.KW ∧ z.KW.length = 112 ∧ Nw wa r ∧ Keep [] wa w' := fun {wa} hk => I.all (I.keep0 hy7 hk) (hcell hk cy7) (hcell hk cx7)
      refine dr_op2 1 10 rfl rfl (by decide +kernel) rfl rfl rfl rfl ?_ ?_
      · refine opTo_call (fst := []) (cap := []) rfl rfl rfl rfl (by decide +kernel) ((hnow (I.keep0 hy7 hS)).mono ?_)
        rintro r w9 ⟨⟨ov, cv, rfl, hov, hcv, n1, n2⟩, hk9⟩
        have hS9 := hS.tr hk9
        refine ⟨fun _ => hS9, ?_⟩
        refine dr_op2 9 10 rfl rfl (by decide +kernel) rfl rfl rfl rfl ?_ ?_
        · refine opTo_call (fst := []) (cap := []) rfl rfl rfl rfl (by decide +kernel) ((hall hS9).mono ?_)
          rintro r w10 ⟨hwl, h112, n3, hk10⟩
          have hS10 := hS9.tr hk10
          have hov10 := hov.keep0 hk10
          have hcv10 := hcv.keep0 hk10
          refine ⟨fun _ => hS10, ?_⟩
          refine dr_op 10 rfl (by decide +kernel) rfl rfl (opTo_allocN _ rfl zero_re ?_)
          intro w11 g hg hs11 hk11 hb11
          refine ⟨fun _ => hS10.tr hk11, ?_⟩
          exact fin _ _ ⟨g, ov, cv, r, hb11, by have := hS10.size; omega, hov10.notNew hg, hcv10.notNew hg, hwl.notNew hg, hov10.keep0 hk11, hcv10.keep0 hk11, hwl.keep0 hk11, h112, hov.form, hcv.form, hwl.form, n1.low hS.size, n2.low hS.size, n3.low hS9.size, hS10.tr hk11, rfl, rfl, rfl, rfl, rfl, rfl, trivial⟩
        · refine opTo_allocN _ rfl zero_re ?_
          intro w10 g hg hs10 hk10 hb10
          have hS10 := hS9.tr hk10
          have hov10 := hov.keep0 hk10
          have hcv10 := hcv.keep0 hk10
          refine ⟨fun _ => hS10, ?_⟩
          refine dr_op 9 rfl (by decide +kernel) rfl rfl (opTo_call (fst := []) (cap := []) rfl rfl rfl rfl (by decide +kernel) ((hall hS10).mono ?_))
          rintro r w11 ⟨hwl, h112, n3, hk11⟩
          refine ⟨fun _ => hS10.tr hk11, ?_⟩
          exact fin _ _ ⟨g, ov, cv, r, hk11.blk hb10 (by simp), by have := hS9.size; omega, hov.notNew hg, hcv.notNew hg, n3.notOld (by omega), hov10.keep0 hk11, hcv10.keep0 hk11, hwl, h112, hov.form, hcv.form, hwl.form, n1.low hS.size, n2.low hS.size, n3.low hS10.size, hS10.tr hk11, rfl, rfl, rfl, rfl, rfl, rfl, trivial⟩
      · refine opTo_allocN _ rfl zero_re ?_
        intro w9 g hg hs9 hk9 hb9
        have hS9 := hS.tr hk9
        refine ⟨fun _ => hS9, ?_⟩
        refine dr_op 1 rfl (by decide +kernel) rfl rfl (opTo_call (fst := []) (cap := []) rfl rfl rfl rfl (by decide +kernel) ((hnow (I.keep0 hy7 hS9)).mono ?_))
        rintro r w10 ⟨⟨ov, cv, rfl, hov, hcv, n1, n2⟩, hk10⟩
        have hS10 := hS9.tr hk10
        refine ⟨fun _ => hS10, ?_⟩
        refine dr_op 9 rfl (by decide +kernel) rfl rfl (opTo_call (fst := []) (cap := []) rfl rfl rfl rfl (by decide +kernel) ((hall hS10).mono ?_))
        rintro r w11 ⟨hwl, h112, n3, hk11⟩
        refine ⟨fun _ => hS10.tr hk11, ?_⟩
        exact fin _ _ ⟨g, ov, cv, r, hk11.blk (hk10.blk hb9 (by simp)) (by simp), by have := hS.size; omega, n1.notOld (by omega), n2.notOld (by omega), n3.notOld (by have := hk10.size; omega), hov.keep0 hk11, hcv.keep0 hk11, hwl, h112, hov.form, hcv.form, hwl.form, n1.low hS9.size, n2.low hS9.size, n3.low hS10.size, hS10.tr hk11, rfl, rfl, rfl, rfl, rfl, rfl, trivial⟩
end E
end Go.Proofs.YtmplkogkphmmjagGreat

/- Lists of numbers, as an argument of a law is read. -/
namespace Go.Proofs.YtmplkogkphmmjagGreat
set_option maxRecDepth 20000
set_option maxHeartbeats 4000000
namespace E
open Go.Proofs

/-- A number of 64 bits. -/
abbrev Lg64 : Type := Int
theorem int_lt {n : Int} (h : (Lit.int .i64 n).wf = true) : n < 9223372036854775808 := by
  simp only [Lit.wf, Bool.and_eq_true, decide_eq_true_eq] at h
  have h2 : n ≤ 9223372036854775807 := h.2
  omega
def ArgI (_ : Nat) (w : World) (v : Value) (l : List Int) : Prop := InpV w v l
theorem flat_lgs (l : List Int) : l.flatMap (fun n => [Value.int .i64 n]) = lgs l := by
  induction l with
  | nil => rfl
  | cons x r ih => rw [List.flatMap_cons, ih]; rfl
theorem argI_of {H : Type} {enc : TypeId × Value → H} {w : World} {v : Value} {d : DataW H} {ps : List MemPlace} (h : DataW.Trod enc Tryz.prog w 0 (fun _ => true) true 26 v d ps) (hv : v.cells = #[v]) : ∃ l, ArgI w.heap.size w v l := by
  obtain ⟨fuel, hf⟩ := h
  obtain ⟨a, cap, L, hcs, hr, _⟩ := open_list (fun n : Int => [Value.int .i64 n]) (fun _ => True) 1 (by decide) Tryz.underlying26 (by decide +kernel) (fun s _ => rfl) (fun n cs x h => by
    obtain ⟨z, hz, _⟩ := trod_int1 Tryz.underlying2 h
    exact ⟨z, hz, trivial⟩) hf
  rw [hv] at hcs
  simp at hcs
  refine ⟨L, a, cap, hcs, fun h0 => ?_⟩
  obtain ⟨b, q, h1, h2, h3⟩ := hr (by intro e; rw [e] at h0; simp at h0)
  rw [flat_lgs] at h3
  exact ⟨b, q, h1, h2, h3⟩
/-- The same, and it has as much room as it has numbers; so many of them are no more than memory. -/
def ArgC (_ : Nat) (w : World) (v : Value) (l : List Int) : Prop := InpV w v l ∧ ∀ a n cap, v = .slice a n cap → n ≤ cap
theorem argC_of {H : Type} {enc : TypeId × Value → H} {w : World} {v : Value} {d : DataW H} {ps : List MemPlace} (h : DataW.Trod enc Tryz.prog w 0 (fun _ => true) true 26 v d ps) (hv : v.cells = #[v]) : ∃ l, ArgC w.heap.size w v l := by
  obtain ⟨l, hl⟩ := argI_of h hv
  refine ⟨l, hl, fun a n cap he => ?_⟩
  subst he
  obtain ⟨fuel, hf⟩ := h
  rcases Go.Deep.open_slice Tryz.underlying26 hf with ⟨hcs, _⟩ | ⟨a', len, cap', m, n', D, Pl, hcs, _, hl', _⟩
  · rw [hv] at hcs
    simp at hcs
    omega
  · rw [hv] at hcs
    simp at hcs
    omega
end E
end Go.Proofs.YtmplkogkphmmjagGreat

/- Steps and masks, as an argument of a law is read; the laws of package life as they are handed what was read. -/
namespace Go.Proofs.YtmplkogkphmmjagGreat
set_option maxRecDepth 20000
set_option maxHeartbeats 4000000
namespace E
open Go.Proofs

theorem u64_nat {n : Int} (h : (Lit.int .u64 n).wf = true) : ∃ k : Nat, n = (k : Nat) ∧ k < 18446744073709551616 := by
  simp only [Lit.wf, Bool.and_eq_true, decide_eq_true_eq] at h
  have h1 : (0 : Int) ≤ n := h.1
  have h2 : n ≤ 18446744073709551615 := h.2
  exact ⟨n.toNat, by omega, by omega⟩
def ArgSp (_ : Nat) (w : World) (v : Value) (l : List Sp) : Prop := SpV w v l ∧ ∀ s ∈ l, SpOk s
section
variable {H : Type} {enc : TypeId × Value → H} {w : World} {base : Nat} {spare : Nat → Bool} {held : Bool} {fuel : Nat} {cs : List Value} {x : DataW H × List MemPlace}
theorem trod_sp (h : DataW.trod enc Tryz.prog w base spare held fuel 37 cs = some x) : ∃ s : Sp, cs = spC s ∧ SpOk s := by
  obtain ⟨xs, n, _, _, hl, hlen, hf⟩ := DataW.trod_struct Tryz.underlying37 h
  have c : Tryz.prog.cellsOf 37 = 4 := by decide +kernel
  have c3 : Tryz.prog.cellsOf 3 = 1 := by decide +kernel
  have c33 : Tryz.prog.cellsOf 28 = 1 := by decide +kernel
  rw [c] at hl
  have f0 : DataW.trod enc Tryz.prog w base spare held n 3 ((cs.drop 0).take (Tryz.prog.cellsOf 3)) = xs[0]? := hf 0 _ rfl
  have f1 : DataW.trod enc Tryz.prog w base spare held n 3 ((cs.drop 1).take (Tryz.prog.cellsOf 3)) = xs[1]? := hf 1 _ rfl
  have f2 : DataW.trod enc Tryz.prog w base spare held n 3 ((cs.drop 2).take (Tryz.prog.cellsOf 3)) = xs[2]? := hf 2 _ rfl
  have f3 : DataW.trod enc Tryz.prog w base spare held n 28 ((cs.drop 3).take (Tryz.prog.cellsOf 28)) = xs[3]? := hf 3 _ rfl
  have hx : ∀ i, i < 4 → ∃ y, xs[i]? = some y := fun i hi => ⟨xs[i]'(by rw [hlen]; exact hi), List.getElem?_eq_getElem _⟩
  obtain ⟨y0, e0⟩ := hx 0 (by decide)
  obtain ⟨y1, e1⟩ := hx 1 (by decide)
  obtain ⟨y2, e2⟩ := hx 2 (by decide)
  obtain ⟨y3, e3⟩ := hx 3 (by decide)
  rw [e0, c3] at f0
  rw [e1, c3] at f1
  rw [e2, c3] at f2
  rw [e3, c33] at f3
  obtain ⟨d, hd, _⟩ := trod_int1 Tryz.underlying3 f0
  obtain ⟨a, ha, wa⟩ := trod_int1 Tryz.underlying3 f1
  obtain ⟨k, hk, wk⟩ := trod_int1 Tryz.underlying3 f2
  obtain ⟨m, hm, wm⟩ := trod_int1 Tryz.underlying28 f3
  obtain ⟨m', rfl, hm'⟩ := u64_nat wm
  refine ⟨(d, a, k, m'), ?_, int_lt wa, int_lt wk, hm'⟩
  have hsplit : cs = (cs.drop 0).take 1 ++ ((cs.drop 1).take 1 ++ ((cs.drop 2).take 1 ++ (cs.drop 3).take 1)) := by
    match cs, hl with
    | [_, _, _, _], _ => rfl
  rw [hsplit, hd, ha, hk, hm]
  rfl
end
theorem argSp_of {H : Type} {enc : TypeId × Value → H} {w : World} {v : Value} {d : DataW H} {ps : List MemPlace} (h : DataW.Trod enc Tryz.prog w 0 (fun _ => true) true 27 v d ps) (hv : v.cells = #[v]) : ∃ l, ArgSp w.heap.size w v l := by
  obtain ⟨fuel, hf⟩ := h
  obtain ⟨a, cap, L, hcs, hr, hq⟩ := open_list spC SpOk 4 (by decide) Tryz.underlying27 (by decide +kernel) (fun s _ => spC_length s) (fun n cs x h => trod_sp h) hf
  rw [hv] at hcs
  simp at hcs
  exact ⟨L, ⟨a, cap, hcs, fun h0 => hr (by intro e; rw [e] at h0; simp at h0)⟩, hq⟩
end E
end Go.Proofs.YtmplkogkphmmjagGreat

/- The law LifeAgain, as it is handed what was read of its arguments. -/
namespace Go.Proofs.YtmplkogkphmmjagGreat
set_option maxRecDepth 20000
set_option maxHeartbeats 4000000
namespace E
open Go.Proofs

theorem lifeAgain_all {nw : List Is → List Int → Md → List Int → List Int} {LV : List VarT → List ST → List Int → Nat → World → Nat → List Nat → Lz → Prop} (I : LfI nw LV) {w : World} {B B2 : Nat} {x iv lv : Value} {vs : List VarT} {body : List ST} {inp : List Int} {l : List Sp} (h : ProgV (fun b => b < w.heap.size) w x vs body) (hi : ArgC B w iv inp) (hs : ArgSp B2 w lv l) (ma : Nat) (hma : ma < 18446744073709551616) (mb : Nat) (hmb : mb < 18446744073709551616) : Ret Tryz.prog 4 [x, iv, lv, .int .u64 (ma : Nat), .int .u64 (mb : Nat)] w fun r w' => r = .bool true ∧ Keep [] w w' := lifeAgain_ret I h hi hs.1 hs.2 ma mb hma hmb
end E
end Go.Proofs.YtmplkogkphmmjagGreat

/- Contracts of the document's small functions on programs: what a kind has, what a name is, cells, the zero expression. -/
namespace Go.Proofs.YtmplkogkphmmjagGreat
set_option maxRecDepth 20000
set_option maxHeartbeats 4000000
namespace E
open Go.Proofs

end E
end Go.Proofs.YtmplkogkphmmjagGreat

/- Contracts of package disk's small functions: Has, New, Wait, and the closures of Flush, Crash and Read. -/
namespace Go.Proofs.YtmplkogkphmmjagGreat
set_option maxRecDepth 20000
set_option maxHeartbeats 4000000
namespace E
open Go.Proofs


/-- A write that waits: its sector, its words. -/
abbrev Wr := Nat × List Int
def wcell (p : Wr) : List Value := .int .i64 p.1 :: ints p.2
def wcells (L : List Wr) : List Value := L.flatMap wcell

/-- There is such a sector. -/
def hasB (i : Int) : Bool := decide (0 ≤ i) && decide (i < 34)

theorem dHas_ret (i : Int) (w : World) : Ret Tryz.prog 66 [.int .i64 i] w fun v w' => v = .bool (hasB i) ∧ w' = w := by
  refine ret_of 9 Tryz.func66 rfl rfl (by simp) ?_
  refine au ?_
  by_cases h0 : 0 ≤ i
  · refine pl_val (.bool true) rfl rfl (val_int .i64 i 0 _ rfl rfl rfl (by simp [intOp, h0]) w) ?_
    refine au ?_
    refine pl_val (.bool (decide (i < 34))) rfl rfl (val_int .i64 i 34 _ rfl rfl rfl (by simp [intOp]) w) ?_
    refine au ?_
    refine rn_ret Tryz.func66 (.inl ⟨_, rfl, rfl⟩) ⟨?_, rfl⟩
    simp [hasB, h0]
  · refine pl_val (.bool false) rfl rfl (val_int .i64 i 0 _ rfl rfl rfl (by simp [intOp, h0]) w) ?_
    refine au ?_
    refine rn_ret Tryz.func66 (.inl ⟨_, rfl, rfl⟩) ⟨?_, rfl⟩
    simp [hasB, h0]

/-- What a disk is in memory: its sectors S (272 words), the writes L that wait; wv: the slice that holds them. -/
structure DiskV (B : Nat) (w : World) (d : Nat) (S : List Int) (L : List Wr) (wv : Value) : Prop where
  blk : Blk w d (ints S ++ [wv]) 113
  owns : w.ownsRow B 153 9 wv L.length (wcells L)
  ne : wv.ownBlock ≠ some d
  len : S.length = 272
  base : B ≤ d
  wf : ∀ p ∈ L, p.1 < 34 ∧ p.2.length = 8

/-- The blocks of a disk. -/
def fpD (d : Nat) (wv : Value) : List Nat := d :: wv.ownBlock.toList

theorem DiskV.keep {B : Nat} {w w' : World} {d : Nat} {S : List Int} {L : List Wr} {wv : Value} {fp : List Nat} (h : DiskV B w d S L wv) (hk : Keep fp w w') (hn : ∀ k ∈ fpD d wv, k ∉ fp) : DiskV B w' d S L wv :=
  ⟨hk.blk h.blk (hn d (by simp [fpD])), hk.owns h.owns fun k e => hn k (by simp [fpD, e]), h.ne, h.len, h.base, h.wf⟩
theorem DiskV.lt {B : Nat} {w : World} {d : Nat} {S : List Int} {L : List Wr} {wv : Value} (h : DiskV B w d S L wv) : ∀ k ∈ fpD d wv, B ≤ k ∧ k < w.heap.size := by
  intro k hk
  simp only [fpD, List.mem_cons, Option.mem_toList] at hk
  rcases hk with rfl | hk
  · exact ⟨h.base, h.blk.lt⟩
  · exact h.owns.lt k hk

theorem new_zero : (Tryz.prog.built 113 []) = some (ints (List.replicate 272 0) ++ [Value.slice none 0 0]).toArray := by kernel_rfl

theorem new_ret (w : World) : Ret Tryz.prog 20 [] w fun v w' => v = .pointer (some ⟨w.heap.size, 0, none⟩) ∧ DiskV w.heap.size w' w.heap.size (List.replicate 272 0) [] (.slice none 0 0) ∧ Keep [] w w' := by
  refine ret_of 3 Tryz.func20 rfl rfl (by simp) ?_
  refine au ?_
  refine pl_val _ rfl rfl (val_build (ints (List.replicate 272 0) ++ [Value.slice none 0 0]) rfl rfl new_zero w) ?_
  refine pl_op rfl rfl (opTo_box _ rfl rfl rfl ?_)
  refine au ?_
  refine rn_ret Tryz.func20 (.inl ⟨_, rfl, rfl⟩) ⟨rfl, ⟨Blk.new w _ _, World.ownsRow_nil _ _ _ _, by simp [Value.ownBlock], List.length_replicate, Nat.le_refl _, by simp⟩, (Keep.refl _ _).alloc _⟩

theorem flush1_ret (i : Int) (w : World) : Ret Tryz.prog 119 [.int .i64 i] w fun v w' => v = .bool true ∧ w' = w := by
  refine ret_of 3 Tryz.func119 rfl rfl (by simp) ?_
  refine au ?_
  exact rn_ret Tryz.func119 (.inl ⟨_, rfl, rfl⟩) ⟨rfl, rfl⟩
end E
end Go.Proofs.YtmplkogkphmmjagGreat

/- The contract of Disk.Write. -/
namespace Go.Proofs.YtmplkogkphmmjagGreat
set_option maxRecDepth 20000
set_option maxHeartbeats 4000000
namespace E
open Go.Proofs

theorem built_write (i : Int) {ws : List Int} (h : ws.length = 8) : Tryz.prog.built 153 [(0, Value.int .i64 i), (1, Value.agg (ints ws).toArray)] = some (Value.int .i64 i :: ints ws).toArray := by
  obtain ⟨a, b, c, d, e, f, g, j, rfl⟩ := list8 h
  kernel_rfl
theorem slice_write (i : Int) {ws : List Int} (h : ws.length = 8) : sliceCells Tryz.prog 111 1 [(0, Value.agg (Value.int .i64 i :: ints ws).toArray)] = some (153, (Value.int .i64 i :: ints ws).toArray) := by
  obtain ⟨a, b, c, d, e, f, g, j, rfl⟩ := list8 h
  kernel_rfl

theorem splice_last {S : List Int} (h : S.length = 272) (u v : Value) : splice (ints S ++ [u]) (0 + 272) [v] = ints S ++ [v] := by
  have hl : (ints S).length = 272 := by rw [ints_length, h]
  simp [splice, hl]

theorem wcells_snoc (L : List Wr) (p : Wr) : wcells (L ++ [p]) = wcells L ++ wcell p := by simp [wcells]

theorem write_ret {B : Nat} {w : World} {d : Nat} {S : List Int} {L : List Wr} {wv : Value} (h : DiskV B w d S L wv) (i : Int) {ws : List Int} (hw : ws.length = 8) (hL : L.length < 1000000) :
    Ret Tryz.prog 118 [.pointer (some ⟨d, 0, none⟩), .int .i64 i, .agg (ints ws).toArray] w fun v w' => v = .bool (hasB i) ∧
      ∃ wv', DiskV B w' d S (if hasB i then L ++ [(i.toNat, ws)] else L) wv' ∧ Keep (fpD d wv) w w' ∧ ∀ k ∈ fpD d wv', k ∈ fpD d wv ∨ w.heap.size ≤ k := by
  refine ret_of 22 Tryz.func118 rfl rfl (by simp) ?_
  refine au ?_
  refine pl_op rfl rfl (opTo_box (ints ws) rfl rfl rfl ?_)
  refine au ?_
  refine pl_op rfl rfl (opTo_call rfl rfl rfl rfl (by decide +kernel) ((dHas_ret i _).mono ?_))
  rintro v w1 ⟨rfl, rfl⟩
  have hk1 : Keep [] w (w.alloc (.cells (ints ws).toArray 109)) := (Keep.refl _ _).alloc _
  cases hb : hasB i with
  | false =>
    refine au ?_
    exact rn_ret Tryz.func118 (.inl ⟨_, rfl, rfl⟩) ⟨rfl, wv, h.keep hk1 (by simp), hk1.of0, fun k hk => .inl hk⟩
  | true =>
    refine au ?_
    have hbx : Blk (w.alloc (.cells (ints ws).toArray 109)) w.heap.size (ints ws) 109 := Blk.new _ _ _
    have h1 : DiskV B (w.alloc (.cells (ints ws).toArray 109)) d S L wv := h.keep hk1 (by simp)
    have hlt := h.lt
    have hsz : (w.alloc (.cells (ints ws).toArray 109)).heap.size = w.heap.size + 1 := World.size_alloc _ _
    generalize (w.alloc (.cells (ints ws).toArray 109)) = w1 at *
    have hd1 : d ∉ wv.ownBlock.toList := by simpa using h.ne
    have hx1 : w.heap.size ∉ wv.ownBlock.toList := fun hm => by
      have := (hlt w.heap.size (by simp only [fpD, List.mem_cons]; exact .inr hm)).2
      omega
    have hS : Keep wv.ownBlock.toList w1 w1.drew := (Keep.refl _ _).drew
    refine rn_draw (fun w' => Keep wv.ownBlock.toList w1 w') [10, 11, 12] hMix ?_
    refine tk 0 ?_
    refine tk 1 ?_
    refine tk 2 ?_
    refine tk 3 ?_
    refine dr_val 4 wv rfl (by decide +kernel) rfl rfl (fun w' hk => val_load1 hT rfl rfl rfl ((hk.blk h1.blk hd1).cell (by simp [h1.len, ints_length]))) hS ?_
    refine tk 5 ?_
    refine dr_val 6 (.agg (ints ws).toArray) rfl (by decide +kernel) rfl rfl (fun w' hk => val_load (ints ws) hT rfl rfl (by simp [ints_length, hw]; rfl) ((hk.blk hbx hx1).range (by simp))) hS ?_
    refine dr_val 7 (.agg (.int .i64 i :: ints ws).toArray) rfl (by decide +kernel) rfl rfl (fun w' _ => val_build _ rfl rfl (built_write i hw) w') hS ?_
    refine dr_op 8 rfl (by decide +kernel) rfl rfl (opTo_buildSlice _ _ rfl rfl (slice_write i hw) ⟨fun _ => hS.alloc _, ?_⟩)
    have hS2 : Keep wv.ownBlock.toList w1 (w1.drew.alloc (.cells (.int .i64 i :: ints ws).toArray 153)) := hS.alloc _
    have hK2 : Keep [] w1 (w1.drew.alloc (.cells (.int .i64 i :: ints ws).toArray 153)) := ((Keep.refl _ _).drew).alloc _
    have hbl : Blk (w1.drew.alloc (.cells (.int .i64 i :: ints ws).toArray 153)) w1.heap.size (.int .i64 i :: ints ws) 153 := Blk.new w1.drew _ _
    have hsz2 : (w1.drew.alloc (.cells (.int .i64 i :: ints ws).toArray 153)).heap.size = w1.heap.size + 1 := World.size_alloc _ _
    refine dr_op 9 rfl (by decide +kernel) rfl rfl (opTo_append B 153 9 72 (wcells L) (.int .i64 i :: ints ws) rfl rfl rfl (by decide +kernel) (by decide) (hK2.owns h1.owns (by simp)) (hbl.range (by simp))
      (by simp [ints_length, hw]) (by intro u hu; rcases List.mem_cons.1 hu with rfl | hu; rfl; exact ints_one ws u hu) (by decide) (by unfold maxLen; omega) (by omega) (by have := h.base; have := h.blk.lt; omega) ?_)
    intro g cap w3 hown hgrow hat hlt3
    have hS3 : Keep wv.ownBlock.toList w1 w3 := hS2.grown hgrow fun k e => .inl (by simp [e])
    refine ⟨fun _ => hS3, ?_⟩
    refine dr_switch (fun _ => True) [] (by decide +kernel) ?_
    have hTr : True := trivial
    refine tk 10 ?_
    refine tk 11 ?_
    have hb3 := hS3.blk h1.blk hd1
    refine dr_op 12 rfl (by decide +kernel) rfl rfl (opTo_store _ rfl rfl rfl rfl (by kernel_rfl) hb3 (by simp [ints_length, h1.len]) (by simp; rfl) ⟨fun _ => trivial, ?_⟩)
    rw [splice_last h1.len]
    refine dr_done (by decide +kernel) ?_
    refine au ?_
    have hgd : g ≠ d := fun e => by
      rcases hat with hat | hat
      · exact h.ne (e ▸ hat)
      · have := h.blk.lt; omega
    have hKw : Keep (fpD d wv) w w3 := (hk1.of0).tr (hS3.mono fun k hk => .inl (by simp only [fpD, List.mem_cons]; exact .inr hk))
    refine rn_ret Tryz.func118 (.inl ⟨_, rfl, rfl⟩) ⟨rfl, .slice (some ⟨g, 0, none⟩) (L.length + 1) cap, ⟨hb3.set _, ?_, ?_, h.len, h.base, ?_⟩, hKw.setRow d _ (.inl (by simp [fpD])), ?_⟩
    · simp only [if_true, List.length_append, List.length_singleton, wcells_snoc]
      have hi : (i.toNat : Int) = i := by
        have := hb
        simp [hasB] at this
        omega
      have hc : wcell (i.toNat, ws) = .int .i64 i :: ints ws := by simp [wcell, hi]
      rw [hc]
      exact Keep.owns ((Keep.refl [d] w3).setRow d _ (.inl (by simp))) hown fun k e => by
        simp only [Value.ownBlock, Option.some.injEq] at e
        simp only [List.mem_singleton]
        omega
    · simp only [Value.ownBlock, ne_eq, Option.some.injEq]
      exact hgd
    · intro p hp
      simp only [if_true, List.mem_append, List.mem_singleton] at hp
      rcases hp with hp | rfl
      · exact h.wf p hp
      · have := hb
        simp [hasB] at this
        exact ⟨by show i.toNat < 34; omega, hw⟩
    · intro k hk
      simp only [fpD, Value.ownBlock, Option.toList_some, List.mem_cons, List.not_mem_nil, or_false] at hk
      rcases hk with rfl | rfl
      · exact .inl (by simp [fpD])
      · rcases hat with hat | hat
        · exact .inl (by simp [fpD, hat])
        · exact .inr (by omega)
end E
end Go.Proofs.YtmplkogkphmmjagGreat

/- Contracts of the closures of Crash and Read, of Disk.last and Disk.Read. -/
namespace Go.Proofs.YtmplkogkphmmjagGreat
set_option maxRecDepth 20000
set_option maxHeartbeats 4000000
namespace E
open Go.Proofs

/-- Whether a mask has the bit of a number. -/
def maskB (mask : Int) (i : Nat) : Bool := IntKind.u64.wrap (BitVec.ofInt 64 (mask.fdiv (2 ^ (i % 64))) &&& BitVec.ofInt 64 1).toNat == 1

theorem crash1_ret {w : World} {c : Nat} {mask : Int} {e : TypeId} (hc : Blk w c [.int .u64 mask] e) (i : Nat) :
    Ret Tryz.prog 63 [.int .i64 i, .pointer (some ⟨c, 0, none⟩)] w fun v w' => v = .bool (maskB mask i) ∧ w' = w := by
  refine ret_of 10 Tryz.func63 rfl rfl (by simp) ?_
  refine au ?_
  refine pl_val (.int .u64 mask) rfl rfl (val_load1 hT rfl rfl rfl (hc.cell rfl)) ?_
  refine au ?_
  refine pl_val (.int .i64 ((i % 64 : Nat) : Int)) rfl rfl (val_int .i64 i 64 _ rfl rfl rfl (by simp [intOp]; rfl) w) ?_
  refine pl_val _ rfl rfl (val_shr .u64 .i64 mask ((i % 64 : Nat) : Int) (mask.fdiv (2 ^ (i % 64))) rfl rfl rfl (by omega) (by
    rw [Int.toNat_natCast, show IntKind.u64.bits = 64 from rfl, Nat.min_eq_left (by omega)]) w) ?_
  refine pl_val _ rfl rfl (val_int .u64 _ 1 _ rfl rfl rfl rfl w) ?_
  refine pl_val _ rfl rfl (val_int .u64 _ 1 _ rfl rfl rfl rfl w) ?_
  refine au ?_
  exact rn_ret Tryz.func63 (.inl ⟨_, rfl, rfl⟩) ⟨rfl, rfl⟩

/-- The last write of those that are such. -/
def lastOf (is : Wr → Bool) (L : List Wr) : Option Wr := (L.filter is).getLast?

theorem lastOf_none {is : Wr → Bool} {L : List Wr} (h : ∀ p ∈ L.drop 0, is p = false) : lastOf is L = none := by
  have : L.filter is = [] := List.filter_eq_nil_iff.2 fun p hp => by simp [h p (by simpa using hp)]
  simp [lastOf, this]
theorem lastOf_some {is : Wr → Bool} {L : List Wr} {j : Nat} {p : Wr} (hp : L[j]? = some p) (hi : is p = true) (h : ∀ p ∈ L.drop (j + 1), is p = false) : lastOf is L = some p := by
  have hlt : j < L.length := (List.getElem?_eq_some_iff.1 hp).1
  have hj : L[j] = p := (List.getElem?_eq_some_iff.1 hp).2
  have e : L = L.take j ++ p :: L.drop (j + 1) := by
    rw [← hj, List.getElem_cons_drop, List.take_append_drop]
  have h0 : (L.drop (j + 1)).filter is = [] := List.filter_eq_nil_iff.2 fun p hp => by simp [h p hp]
  rw [lastOf, e, List.filter_append, List.filter_cons_of_pos hi, h0]
  simp

theorem wcell_length {p : Wr} (h : p.2.length = 8) : (wcell p).length = 9 := by simp [wcell, ints_length, h]

theorem DiskV.at {B : Nat} {w : World} {d : Nat} {S : List Int} {L : List Wr} {wv : Value} (h : DiskV B w d S L wv) {j : Nat} {p : Wr} (hp : L[j]? = some p) :
    ∃ g cap, wv = .slice (some ⟨g, 0, none⟩) L.length cap ∧ w.rangeAt g (0 + j * 9) (wcell p) := by
  have hlt : j < L.length := (List.getElem?_eq_some_iff.1 hp).1
  have hm : p ∈ L := List.mem_of_getElem? hp
  rcases h.owns.2 with ⟨_, h2⟩ | ⟨g, cap, cur, hv, _⟩
  · omega
  · refine ⟨g, cap, hv, ?_⟩
    have ho := h.owns
    rw [hv] at ho
    refine owns_range ho ?_
    rw [wcell_length (h.wf p hm).2, Nat.zero_add]
    exact flat_at (fun q hq => wcell_length (h.wf q hq).2) hp

theorem zero_write : ((Tryz.prog.info? 153).bind (·.zero)).map (·.cells) = some (wcell (0, List.replicate 8 0)).toArray := by kernel_rfl
theorem built_write0 : Tryz.prog.built 153 [] = some (wcell (0, List.replicate 8 0)).toArray := by kernel_rfl
theorem zero_words : ((Tryz.prog.info? 109).bind (·.zero)).map (·.cells) = some (ints (List.replicate 8 0)).toArray := by kernel_rfl
theorem built_words0 : Tryz.prog.built 109 [] = some (ints (List.replicate 8 0)).toArray := by kernel_rfl

def wzero : Wr := (0, List.replicate 8 0)

theorem splice_all {L vs : List Value} (h : vs.length = L.length) : splice L 0 vs = vs := by
  simp [splice, h]

theorem wcell_one (p : Wr) : ∀ u ∈ wcell p, u.oneCell' = true := by
  intro u hu
  rcases List.mem_cons.1 hu with rfl | hu
  · rfl
  · exact ints_one p.2 u hu

end E
end Go.Proofs.YtmplkogkphmmjagGreat

/- The contracts of Disk.Read, Disk.settle, Disk.Flush, Disk.Crash, Disk.Sure. -/
namespace Go.Proofs.YtmplkogkphmmjagGreat
set_option maxRecDepth 20000
set_option maxHeartbeats 4000000
namespace E
open Go.Proofs

/-- What is read of a sector. -/
def readD (S : List Int) (L : List Wr) (i : Int) : List Int :=
  if hasB i then (match lastOf (fun p => (p.1 : Int) == i) L with
    | some p => p.2
    | none => (S.drop (i.toNat * 8)).take 8) else List.replicate 8 0

theorem lastOf_mem {is : Wr → Bool} {L : List Wr} {p : Wr} (h : lastOf is L = some p) : p ∈ L := by
  have := List.mem_of_getLast? h
  exact (List.mem_filter.1 this).1

theorem readD_length {S : List Int} {L : List Wr} {i : Int} (hS : S.length = 272) (hL : ∀ p ∈ L, p.1 < 34 ∧ p.2.length = 8) : (readD S L i).length = 8 := by
  unfold readD
  split
  · rename_i h
    simp [hasB] at h
    split
    · rename_i p hp; exact (hL p (lastOf_mem hp)).2
    · simp [hS]; omega
  · simp

theorem sector_cells {S : List Int} (hS : S.length = 272) (u : Value) (j : Nat) (hj : j < 34) : ((ints S ++ [u]).drop (j * 8)).take 8 = ints ((S.drop (j * 8)).take 8) := by
  rw [List.drop_append_of_le_length (by rw [ints_length]; omega), List.take_append_of_le_length (by simp [ints_length]; omega)]
  simp [ints, List.map_take, List.map_drop]

end E
end Go.Proofs.YtmplkogkphmmjagGreat

/- The contracts of Disk.settle, Disk.Flush, Disk.Crash, Disk.Sure. -/
namespace Go.Proofs.YtmplkogkphmmjagGreat
set_option maxRecDepth 20000
set_option maxHeartbeats 4000000
namespace E
open Go.Proofs

def upd (S : List Int) (p : Wr) : List Int := S.take (p.1 * 8) ++ p.2 ++ S.drop (p.1 * 8 + 8)

theorem upd_length {S : List Int} {p : Wr} (hS : S.length = 272) (hp : p.1 < 34 ∧ p.2.length = 8) : (upd S p).length = 272 := by
  simp [upd, hS, hp.2]; omega

/-- What the sectors hold when the first j of the writes are settled. -/
def stl (stays : Nat → Bool) (L : List Wr) (j : Nat) (S : List Int) : List Int := ((L.take j).zipIdx).foldl (fun S q => if stays q.2 then upd S q.1 else S) S

theorem stl_zero (stays : Nat → Bool) (L : List Wr) (S : List Int) : stl stays L 0 S = S := by simp [stl]
theorem stl_succ (stays : Nat → Bool) {L : List Wr} {j : Nat} {p : Wr} (hp : L[j]? = some p) (S : List Int) : stl stays L (j + 1) S = if stays j then upd (stl stays L j S) p else stl stays L j S := by
  have hlt : j < L.length := (List.getElem?_eq_some_iff.1 hp).1
  have hj : L[j] = p := (List.getElem?_eq_some_iff.1 hp).2
  unfold stl
  rw [List.take_succ_eq_append_getElem hlt, List.zipIdx_append, List.foldl_append, hj]
  simp [Nat.min_eq_left (Nat.le_of_lt hlt)]
theorem stl_length {stays : Nat → Bool} {L : List Wr} (hL : ∀ p ∈ L, p.1 < 34 ∧ p.2.length = 8) {S : List Int} (hS : S.length = 272) : ∀ j, j ≤ L.length → (stl stays L j S).length = 272
  | 0, _ => by rw [stl_zero, hS]
  | j + 1, h => by
    have hp : L[j]? = some L[j] := List.getElem?_eq_getElem h
    rw [stl_succ stays hp]
    split
    · exact upd_length (stl_length hL hS j (by omega)) (hL _ (List.getElem_mem h))
    · exact stl_length hL hS j (by omega)

def settled (stays : Nat → Bool) (L : List Wr) (S : List Int) : List Int := stl stays L L.length S

theorem splice_upd {S : List Int} (hS : S.length = 272) (u : Value) {p : Wr} (hp : p.1 < 34 ∧ p.2.length = 8) : splice (ints S ++ [u]) (0 + p.1 * 8) (ints p.2) = ints (upd S p) ++ [u] := by
  have e1 : (ints S ++ [u]).take (0 + p.1 * 8) = ints (S.take (p.1 * 8)) := by
    rw [Nat.zero_add, List.take_append_of_le_length (by rw [ints_length]; omega)]
    simp [ints, List.map_take]
  have e2 : (ints S ++ [u]).drop (0 + p.1 * 8 + (ints p.2).length) = ints (S.drop (p.1 * 8 + 8)) ++ [u] := by
    rw [Nat.zero_add, ints_length, hp.2, List.drop_append_of_le_length (by rw [ints_length]; omega)]
    simp [ints, List.map_drop]
  rw [splice, e1, e2, upd]
  simp [ints]

theorem settle_ret {B : Nat} {w : World} {d : Nat} {S : List Int} {L : List Wr} {wv : Value} (h : DiskV B w d S L wv) (hL : L.length < 1000000) (stays : Nat → Bool) (g : Nat) (cap : List Value) (hg : callable Tryz.prog g = true)
    (hclo : ∀ i, i < L.length → ∀ w1, Keep [d] w w1 → Ret Tryz.prog g (.int .i64 (i : Nat) :: cap) w1 fun v w' => v = .bool (stays i) ∧ Keep [] w1 w') :
    Ret Tryz.prog 62 [.pointer (some ⟨d, 0, none⟩), .func (.func g) #[] cap.toArray] w fun v w' =>
      v = .tuple #[] ∧ DiskV B w' d (settled stays L S) [] (.slice none 0 0) ∧ Keep [d] w w' := by
  refine ret_of 31 Tryz.func62 rfl rfl (by simp) ?_
  refine au ?_
  refine pl_val wv rfl rfl (val_load1 hT rfl rfl rfl (h.blk.cell (by simp [h.len, ints_length]))) ?_
  have hv : ∃ a cap, wv = .slice a L.length cap := by
    rcases h.owns.2 with ⟨h1, h2⟩ | ⟨g, cap, cur, h1, _⟩
    · exact ⟨none, 0, by rw [h1, h2]⟩
    · exact ⟨_, cap, h1⟩
  obtain ⟨wa, wcap, hwv⟩ := hv
  refine pl_val (.int .i64 L.length) rfl rfl (val_pure hT (by subst hwv; rfl) w) ?_
  refine au ?_
  refine rn_ind (fun m σ w' => ∃ j, m = L.length - j ∧ j ≤ L.length ∧ σ = [(0, .pointer (some ⟨d, 0, none⟩)), (1, .func (.func g) #[] cap.toArray), (9, wv), (10, .int .i64 L.length), (11, .int .i64 (j : Nat))] ∧ DiskV B w' d (stl stays L j S) L wv ∧ Keep [d] w w')
    (L.length - 0) _ ?_ ⟨0, rfl, Nat.zero_le _, rfl, by rw [stl_zero]; exact h, Keep.refl _ _⟩ ?_
  · exact ⟨rfl, rfl, rfl, rfl, rfl, trivial⟩
  rintro m σ w2 ih ⟨j, hm, hj, rfl, h2, hk2⟩
  refine au ?_
  rcases Nat.lt_or_ge j L.length with hlt | hge
  · refine pl_val (.bool true) rfl rfl (val_int .i64 _ _ _ rfl rfl rfl (by simp [intOp, hlt]) w2) ?_
    refine au ?_
    obtain ⟨p, hp⟩ : ∃ p, L[j]? = some p := ⟨L[j], List.getElem?_eq_getElem hlt⟩
    obtain ⟨gb, gcap, hgv, hrange⟩ := h2.at hp
    have hpm : p ∈ L := List.mem_of_getElem? hp
    have hpw := h.wf p hpm
    refine pl_val _ rfl rfl (val_index j hT rfl (by rw [hgv]; rfl) rfl rfl rfl hlt w2) ?_
    refine pl_val (.agg (wcell p).toArray) rfl rfl (val_load _ hT rfl rfl (by rw [wcell_length hpw.2]; rfl) hrange) ?_
    refine pl_op rfl rfl (opTo_alloc _ rfl zero_write ?_)
    have hk3 : Keep [] w2 (w2.alloc (.cells (wcell (0, List.replicate 8 0)).toArray 153)) := (Keep.refl _ _).alloc _
    have hx3 : Blk (w2.alloc (.cells (wcell (0, List.replicate 8 0)).toArray 153)) w2.heap.size (wcell (0, List.replicate 8 0)) 153 := Blk.new _ _ _
    generalize (w2.alloc (.cells (wcell (0, List.replicate 8 0)).toArray 153)) = w3 at *
    refine au ?_
    refine pl_op rfl rfl (opTo_store _ rfl rfl rfl rfl (by rw [wcell_length hpw.2]; decide +kernel) hx3 (by rw [wcell_length hpw.2]; decide) (wcell_one _) ?_)
    rw [splice_all (by rw [wcell_length hpw.2]; rfl)]
    have hk4 : Keep [] w2 (w3.setRow w2.heap.size (wcell p).toArray) := hk3.setRow _ _ (.inr (Nat.le_refl _))
    have hx4 := hx3.set (wcell p)
    generalize (w3.setRow w2.heap.size (wcell p).toArray) = w4 at *
    refine au ?_
    refine pl_op rfl rfl (opTo_call rfl rfl rfl rfl hg ((hclo j hlt w4 (hk2.tr0 hk4)).mono ?_))
    rintro v w5 ⟨rfl, hk5⟩
    have hk25 : Keep [] w2 w5 := hk4.tr0 hk5
    have h5 := h2.keep hk25 (by simp)
    have hx5 := hk5.blk hx4 (by simp)
    have hnd : w2.heap.size ≠ d := by have := h2.blk.lt; omega
    cases hs : stays j with
    | false =>
      refine au ?_
      refine pl_val (.int .i64 ((j + 1 : Nat) : Int)) rfl rfl (val_int .i64 j 1 _ rfl rfl rfl (by simp only [intOp]; rw [wrap_i64 (by omega) (by omega)]; rfl) w5) ?_
      refine au ?_
      refine rn_sub ?_ (ih (L.length - (j + 1)) _ w5 (by omega) ⟨j + 1, rfl, hlt, rfl, by rw [stl_succ stays hp, hs]; exact h5, hk2.tr0 hk25⟩)
      exact ⟨rfl, rfl, rfl, rfl, rfl, trivial⟩
    | true =>
      refine au ?_
      have hS : Keep [d] w5 w5.drew := (Keep.refl _ _).drew
      have hlen : (ints p.2).length = 8 := by rw [ints_length, hpw.2]
      have hxd : w2.heap.size ∉ [d] := by simpa using hnd
      refine rn_draw (fun w' => Keep [d] w5 w') [] hMix ?_
      refine tk 0 ?_
      refine tk 1 ?_
      refine dr_val 2 (.int .i64 p.1) rfl (by decide +kernel) rfl rfl (fun w' hk => val_load1 hT rfl rfl rfl ((hk.blk hx5 hxd).cell rfl)) hS ?_
      refine tk 3 ?_
      refine dr_val 4 (.agg (ints p.2).toArray) rfl (by decide +kernel) rfl rfl (fun w' hk => val_load _ hT rfl rfl (by rw [hlen]; rfl) ((hk.blk hx5 hxd).range (by simp [wcell]))) hS ?_
      refine tk 5 ?_
      refine tk 6 ?_
      refine dr_val 7 _ rfl (by decide +kernel) rfl rfl (fun w' _ => val_indexArr p.1 hT rfl rfl rfl rfl rfl hpw.1 w') hS ?_
      refine dr_op 8 rfl (by decide +kernel) rfl rfl (opTo_store _ rfl rfl rfl rfl (by rw [hlen]; decide +kernel) h5.blk.drew (by rw [hlen, List.length_append, ints_length, h5.len]; simp; omega) (ints_one _) ⟨fun _ => hS.setRow _ _ (.inl (by simp)), ?_⟩)
      rw [Nat.add_zero, splice_upd h5.len wv hpw]
      refine dr_done (by decide +kernel) ?_
      have hbn := h5.blk.drew.set (ints (upd (stl stays L j S) p) ++ [wv])
      have hkd : Keep [d] w5 (w5.drew.setRow d (ints (upd (stl stays L j S) p) ++ [wv]).toArray) := hS.setRow _ _ (.inl (by simp))
      generalize (w5.drew.setRow d (ints (upd (stl stays L j S) p) ++ [wv]).toArray) = w6 at *
      refine au ?_
      refine pl_val (.int .i64 ((j + 1 : Nat) : Int)) rfl rfl (val_int .i64 j 1 _ rfl rfl rfl (by simp only [intOp]; rw [wrap_i64 (by omega) (by omega)]; rfl) w6) ?_
      refine au ?_
      refine rn_sub ?_ (ih (L.length - (j + 1)) _ w6 (by omega) ⟨j + 1, rfl, hlt, rfl, ?_, (hk2.tr0 hk25).tr hkd⟩)
      · exact ⟨rfl, rfl, rfl, rfl, rfl, trivial⟩
      · rw [stl_succ stays hp, hs]
        exact ⟨hbn, hkd.owns h5.owns fun k e => by
          simp only [List.mem_singleton]
          intro e2
          exact h.ne (e2 ▸ e), h.ne, upd_length h5.len hpw, h.base, h.wf⟩
  · have hjj : j = L.length := by omega
    subst hjj
    refine pl_val (.bool false) rfl rfl (val_int .i64 _ _ _ rfl rfl rfl (by simp [intOp]) w2) ?_
    refine au ?_
    refine pl_op rfl rfl (opTo_store _ rfl rfl rfl rfl (by kernel_rfl) h2.blk (by simp [ints_length, h2.len]) (by simp; rfl) ?_)
    rw [splice_last h2.len]
    refine au ?_
    exact rn_end Tryz.func62 (.inr (.inl ⟨rfl, rfl⟩)) ⟨rfl, ⟨h2.blk.set _, World.ownsRow_nil _ _ _ _, by simp [Value.ownBlock], h2.len, h.base, by simp⟩, hk2.setRow _ _ (.inl (by simp))⟩

theorem flush_ret {B : Nat} {w : World} {d : Nat} {S : List Int} {L : List Wr} {wv : Value} (h : DiskV B w d S L wv) (hL : L.length < 1000000) :
    Ret Tryz.prog 116 [.pointer (some ⟨d, 0, none⟩)] w fun v w' => v = .tuple #[] ∧ DiskV B w' d (settled (fun _ => true) L S) [] (.slice none 0 0) ∧ Keep [d] w w' := by
  refine ret_of 4 Tryz.func116 rfl rfl (by simp) ?_
  refine au ?_
  refine pl_op rfl rfl (opTo_call rfl rfl rfl rfl (by decide +kernel) ((settle_ret h hL (fun _ => true) 119 [] (by decide +kernel) (fun i _ w1 _ => (flush1_ret i w1).mono fun v w' hv => ⟨hv.1, hv.2 ▸ Keep.refl _ _⟩)).mono ?_))
  rintro v w1 ⟨rfl, h1, hk⟩
  refine au ?_
  exact rn_end Tryz.func116 (.inr (.inl ⟨rfl, rfl⟩)) ⟨rfl, h1, hk⟩

theorem crash_ret {B : Nat} {w : World} {d : Nat} {S : List Int} {L : List Wr} {wv : Value} (h : DiskV B w d S L wv) (hL : L.length < 1000000) (mask : Int) :
    Ret Tryz.prog 45 [.pointer (some ⟨d, 0, none⟩), .int .u64 mask] w fun v w' => v = .tuple #[] ∧ DiskV B w' d (settled (maskB mask) L S) [] (.slice none 0 0) ∧ Keep [d] w w' := by
  refine ret_of 7 Tryz.func45 rfl rfl (by simp) ?_
  refine au ?_
  refine pl_op rfl rfl (opTo_box [.int .u64 mask] rfl rfl rfl ?_)
  have hk1 : Keep [] w (w.alloc (.cells [Value.int .u64 mask].toArray 28)) := (Keep.refl _ _).alloc _
  have hc : Blk (w.alloc (.cells [Value.int .u64 mask].toArray 28)) w.heap.size [.int .u64 mask] 28 := Blk.new _ _ _
  generalize (w.alloc (.cells [Value.int .u64 mask].toArray 28)) = w1 at *
  have hnd : w.heap.size ≠ d := by have := h.blk.lt; omega
  refine au ?_
  refine pl_op rfl rfl (opTo_call rfl rfl rfl rfl (by decide +kernel) ((settle_ret (h.keep hk1 (by simp)) hL (maskB mask) 63 [.pointer (some ⟨w.heap.size, 0, none⟩)] (by decide +kernel)
    (fun i _ w2 hk2 => (crash1_ret (hk2.blk hc (by simpa using hnd)) i).mono fun v w' hv => ⟨hv.1, hv.2 ▸ Keep.refl _ _⟩)).mono ?_))
  rintro v w2 ⟨rfl, h2, hk2⟩
  refine au ?_
  exact rn_end Tryz.func45 (.inr (.inl ⟨rfl, rfl⟩)) ⟨rfl, h2, (hk1.of0).tr hk2⟩

theorem clone_ret {w : World} {b : Nat} {cs : List Value} (hr : w.rangeAt b 0 cs) (hl : cs.length = 272) (h1 : ∀ u ∈ cs, u.oneCell' = true) :
    Ret Tryz.prog 51 [.slice (some ⟨b, 0, none⟩) 34 34] w fun v w' => ∃ g cap, v = .slice (some ⟨g, 0, none⟩) 34 cap ∧ w'.ownsRow w.heap.size 109 8 v 34 cs ∧ Keep [] w w' := by
  refine ret_of 8 Tryz.func51 rfl rfl (by simp) ?_
  refine au ?_
  refine pl_val (.bool false) rfl rfl (val_notNil hT rfl rfl rfl w) ?_
  refine au ?_
  refine pl_op rfl rfl (opTo_buildSlice 109 [] rfl rfl (by kernel_rfl) ?_)
  have hk1 : Keep [] w (w.alloc (.cells ([] : List Value).toArray 109)) := (Keep.refl _ _).alloc _
  have hb1 : Blk (w.alloc (.cells ([] : List Value).toArray 109)) w.heap.size [] 109 := Blk.new _ _ _
  have hr1 : (w.alloc (.cells ([] : List Value).toArray 109)).rangeAt b 0 cs := World.rangeAt_alloc hr _
  generalize (w.alloc (.cells ([] : List Value).toArray 109)) = w1 at *
  refine au ?_
  refine pl_op rfl rfl (opTo_append w.heap.size 109 8 64 [] cs rfl rfl rfl (by decide +kernel) (by decide) ⟨rfl, .inr ⟨w.heap.size, 0, #[], rfl, Nat.le_refl _, hb1, Nat.le_refl _, by decide, rfl, rfl⟩⟩ hr1 hl h1 (by decide) (by decide) (by decide) (by have := hk1.size; omega) ?_)
  intro g cap w2 hown hgrow hat hlt
  refine au ?_
  refine rn_ret Tryz.func51 (.inl ⟨_, rfl, rfl⟩) ⟨g, cap, rfl, by simpa using hown, hk1.grown hgrow fun k e => ?_⟩
  simp only [Value.ownBlock, Option.some.injEq] at e
  exact .inr (by omega)

theorem sure_ret {B : Nat} {w : World} {d : Nat} {S : List Int} {L : List Wr} {wv : Value} (h : DiskV B w d S L wv) :
    Ret Tryz.prog 32 [.pointer (some ⟨d, 0, none⟩)] w fun v w' => ∃ g cap, v = .slice (some ⟨g, 0, none⟩) 34 cap ∧ w'.ownsRow w.heap.size 109 8 v 34 (ints S) ∧ Keep [] w w' := by
  refine ret_of 8 Tryz.func32 rfl rfl (by simp) ?_
  refine au ?_
  refine pl_val _ rfl rfl (val_sliceArr hT rfl rfl rfl w) ?_
  refine pl_op rfl rfl (opTo_call rfl rfl rfl rfl (by decide +kernel) ((clone_ret (h.blk.range (by simp)) (by rw [ints_length, h.len]) (ints_one S)).mono ?_))
  rintro v w1 ⟨g, cap, rfl, ho, hk⟩
  refine au ?_
  exact rn_ret Tryz.func32 (.inl ⟨_, rfl, rfl⟩) ⟨g, cap, rfl, ho, hk⟩
end E
end Go.Proofs.YtmplkogkphmmjagGreat

/- Sectors of a disk: plain mathematics, with no law's function. -/
namespace Go.Proofs.YtmplkogkphmmjagGreat
set_option maxRecDepth 20000
set_option maxHeartbeats 4000000
namespace E
open Go.Proofs

theorem Keep.range {fp : List Nat} {w w' : World} (h : Keep fp w w') {b q : Nat} {cs : List Value} (hr : w.rangeAt b q cs) (hlt : b < w.heap.size) (hn : b ∉ fp) : w'.rangeAt b q cs := fun j v hv => by
  rw [World.cell?_of_block (w := w) (h.block b hlt hn)]
  exact hr j v hv

theorem range_sub {w : World} {b q : Nat} {cs ds : List Value} (h : w.rangeAt b q cs) (k : Nat) (hd : (cs.drop k).take ds.length = ds) : w.rangeAt b (q + k) ds := fun j v hv => by
  rw [Nat.add_assoc]
  refine h (k + j) v ?_
  rw [← hd, List.getElem?_take] at hv
  split at hv
  · simpa using hv
  · cases hv

def sector (S : List Int) (k : Nat) : List Int := (S.drop (k * 8)).take 8
theorem sector_length {S : List Int} (h : S.length = 272) {k : Nat} (hk : k < 34) : (sector S k).length = 8 := by simp [sector, h]; omega

theorem settled_nil (stays : Nat → Bool) (S : List Int) : settled stays [] S = S := rfl

theorem sure_at {B : Nat} {w : World} {g cap : Nat} {S : List Int} (h : w.ownsRow B 109 8 (.slice (some ⟨g, 0, none⟩) 34 cap) 34 (ints S)) (hS : S.length = 272) {k : Nat} (hk : k < 34) : w.rangeAt g (0 + k * 8) (ints (sector S k)) := by
  refine owns_range h ?_
  rw [Nat.zero_add, ints_length, sector_length hS hk]
  simp [sector, ints, List.map_take, List.map_drop]

theorem readD_nil {S : List Int} {k : Nat} (hk : k < 34) : readD S [] (k : Nat) = sector S k := by
  have hb : hasB ((k : Nat) : Int) = true := by simp [hasB]; omega
  simp [readD, hb, lastOf, sector]

theorem arrW : arrInt Tryz.prog 109 8 = true := by decide +kernel

theorem sector_upd {S : List Int} {p : Wr} {k : Nat} (hS : S.length = 272) (hp : p.1 < 34 ∧ p.2.length = 8) (hk : k < 34) : sector (upd S p) k = if p.1 = k then p.2 else sector S k := by
  obtain ⟨a, ws⟩ := p
  simp only at hp ⊢
  unfold sector upd
  simp only
  apply List.ext_getElem?
  intro j
  by_cases e : a = k
  · subst e
    simp only [if_true, List.getElem?_take, List.getElem?_drop]
    split
    · rename_i hj
      rw [List.getElem?_append_left (by simp [hS, hp.2]; omega), List.getElem?_append_right (by simp [hS]; omega)]
      congr 1
      simp [hS]; omega
    · rename_i hj
      rw [List.getElem?_eq_none (by omega)]
  · simp only [e, if_false, List.getElem?_take, List.getElem?_drop]
    split
    · rename_i hj
      rcases Nat.lt_or_gt_of_ne e with h | h
      · rw [List.getElem?_append_right (by simp [hS, hp.2]; omega), List.getElem?_drop]
        congr 1
        simp [hS, hp.2]; omega
      · rw [List.append_assoc, List.getElem?_append_left (by simp [hS]; omega), List.getElem?_take, if_pos (by omega)]
    · rfl

end E
end Go.Proofs.YtmplkogkphmmjagGreat

/- Contracts of package store that read: Has, Open, held, find, Gen, Read. -/
namespace Go.Proofs.YtmplkogkphmmjagGreat
set_option maxRecDepth 20000
set_option maxHeartbeats 4000000
namespace E
open Go.Proofs

abbrev z8 : List Int := List.replicate 8 0
def hd (l : List Int) : Int := l.headD 0

/-- There is such a page. -/
def hasP (i : Int) : Bool := decide (0 ≤ i) && decide (i < 14)

/-- What a sector that is led to holds. -/
def heldS (S : List Int) (at_ : Int) : List Int := if at_ = 0 ∨ hasB at_ = false then z8 else sector S at_.toNat

def rootMax (S : List Int) : Nat → List Int
  | 0 => z8
  | j + 1 => if hd (sector S j) > hd (rootMax S j) then sector S j else rootMax S j
/-- The root that leads. -/
def lastRoot (S : List Int) : List Int := rootMax S 2
def genS (S : List Int) : Int := hd (lastRoot S)
def tabS (S : List Int) : List Int := ((lastRoot S).drop 1).take 2
def pgS (S : List Int) : List Int := (heldS S ((tabS S).getD 0 0) ++ heldS S ((tabS S).getD 1 0)).take 14
/-- A state, as it lies in memory. -/
def stS (S : List Int) : List Int := genS S :: (tabS S ++ pgS S)
def readS (S : List Int) (i : Int) : List Int := if hasP i then heldS S ((pgS S).getD i.toNat 0) else z8

theorem heldS_length {S : List Int} (hS : S.length = 272) (a : Int) : (heldS S a).length = 8 := by
  unfold heldS
  split
  · simp [z8]
  · rename_i h
    have h2 : hasB a = true := by
      rcases hb : hasB a with _ | _
      · exact absurd (.inr hb) h
      · rfl
    simp [hasB] at h2
    exact sector_length hS (by omega)
theorem rootMax_length {S : List Int} (hS : S.length = 272) : ∀ j, j ≤ 34 → (rootMax S j).length = 8
  | 0, _ => by simp [rootMax, z8]
  | j + 1, h => by
    unfold rootMax
    split
    · exact sector_length hS (by omega)
    · exact rootMax_length hS j (by omega)
theorem lastRoot_length {S : List Int} (hS : S.length = 272) : (lastRoot S).length = 8 := rootMax_length hS 2 (by decide)
theorem tabS_length {S : List Int} (hS : S.length = 272) : (tabS S).length = 2 := by simp [tabS, lastRoot_length hS]
theorem pgS_length {S : List Int} (hS : S.length = 272) : (pgS S).length = 14 := by simp [pgS, heldS_length hS]
theorem stS_length {S : List Int} (hS : S.length = 272) : (stS S).length = 17 := by simp [stS, tabS_length hS, pgS_length hS]
theorem readS_length {S : List Int} (hS : S.length = 272) (i : Int) : (readS S i).length = 8 := by
  unfold readS
  split
  · exact heldS_length hS _
  · simp [z8]

theorem list2 {l : List Int} (h : l.length = 2) : ∃ a b, l = [a, b] := by
  match l, h with
  | [a, b], _ => exact ⟨a, b, rfl⟩

theorem hasP_ret (i : Int) (w : World) : Ret Tryz.prog 79 [.int .i64 i] w fun v w' => v = .bool (hasP i) ∧ w' = w := by
  refine ret_of 9 Tryz.func79 rfl rfl (by simp) ?_
  refine au ?_
  by_cases h0 : 0 ≤ i
  · refine pl_val (.bool true) rfl rfl (val_int .i64 i 0 _ rfl rfl rfl (by simp [intOp, h0]) w) ?_
    refine au ?_
    refine pl_val (.bool (decide (i < 14))) rfl rfl (val_int .i64 i 14 _ rfl rfl rfl (by simp [intOp]) w) ?_
    refine au ?_
    refine rn_ret Tryz.func79 (.inl ⟨_, rfl, rfl⟩) ⟨?_, rfl⟩
    simp [hasP, h0]
  · refine pl_val (.bool false) rfl rfl (val_int .i64 i 0 _ rfl rfl rfl (by simp [intOp, h0]) w) ?_
    refine au ?_
    refine rn_ret Tryz.func79 (.inl ⟨_, rfl, rfl⟩) ⟨?_, rfl⟩
    simp [hasP, h0]

theorem held_ret {B : Nat} {w : World} {g cap : Nat} {S : List Int} (ho : w.ownsRow B 109 8 (.slice (some ⟨g, 0, none⟩) 34 cap) 34 (ints S)) (hS : S.length = 272) (a : Int) :
    Ret Tryz.prog 50 [.slice (some ⟨g, 0, none⟩) 34 cap, .int .i64 a] w fun v w' => v = .agg (ints (heldS S a)).toArray ∧ Keep [] w w' := by
  refine ret_of 17 Tryz.func50 rfl rfl (by simp) ?_
  refine au ?_
  refine pl_op rfl rfl (opTo_alloc _ rfl zero_words ?_)
  have hlt : g < w.heap.size := (ho.lt g rfl).2
  have hr := Blk.new w (ints (List.replicate 8 0)) 109
  have hk1 : Keep [] w (w.alloc (.cells (ints (List.replicate 8 0)).toArray 109)) := (Keep.refl _ _).alloc _
  have ho1 := hk1.owns ho (by simp)
  generalize (w.alloc (.cells (ints (List.replicate 8 0)).toArray 109)) = w1 at *
  refine auj ?_
  refine rn_seq ?_
  refine rn_seq ?_
  refine rn_with (fun σ w' => w' = w1 ∧ σ = [(0, .slice (some ⟨g, 0, none⟩) 34 cap), (1, .int .i64 a), (4, .pointer (some ⟨w.heap.size, 0, none⟩)), (11, .bool (decide (a = 0 ∨ hasB a = false)))]) ?_ ?_
  · rintro σ w2 ⟨rfl, rfl⟩
    by_cases hout : a = 0 ∨ hasB a = false
    · rw [decide_eq_true hout]
      refine au ?_
      refine pl_val _ rfl rfl (val_build _ rfl rfl built_words0 w2) ?_
      refine pl_op rfl rfl (opTo_store _ rfl rfl rfl rfl (by kernel_rfl) hr (by simp [ints]) (ints_one _) ?_)
      rw [splice_all rfl]
      refine au ?_
      refine rn_ret Tryz.func50 (.inr (.inr (.inl ⟨_, _, _, rfl, rfl, loadVar_agg hT (cs := ints (List.replicate 8 0)) rfl ((hr.set _).range (by simp))⟩))) ⟨?_, hk1.setRow _ _ (.inr (Nat.le_refl _))⟩
      rw [heldS, if_pos hout]
    · rw [decide_eq_false hout]
      refine au ?_
      have hb : hasB a = true := by
        rcases hb : hasB a with _ | _
        · exact absurd (.inr hb) hout
        · rfl
      have hi : 0 ≤ a ∧ a < 34 := by simpa [hasB] using hb
      refine pl_val _ rfl rfl (val_index a.toNat hT rfl rfl rfl rfl (by omega) (by omega) w2) ?_
      have h8 : (sector S a.toNat).length = 8 := sector_length hS (by omega)
      refine pl_val (.agg (ints (sector S a.toNat)).toArray) rfl rfl (val_load _ hT rfl rfl (by rw [ints_length, h8]; rfl) (sure_at ho1 hS (by omega))) ?_
      refine pl_op rfl rfl (opTo_store _ rfl rfl rfl rfl (by rw [ints_length, h8]; decide +kernel) hr (by rw [ints_length, h8]; decide) (ints_one _) ?_)
      rw [splice_all (by rw [ints_length, h8]; rfl)]
      refine au ?_
      refine rn_ret Tryz.func50 (.inr (.inr (.inl ⟨_, _, _, rfl, rfl, loadVar_agg hT (cs := ints (sector S a.toNat)) (by rw [ints_length, h8]; rfl) ((hr.set _).range (by simp))⟩))) ⟨?_, hk1.setRow _ _ (.inr (Nat.le_refl _))⟩
      rw [heldS, if_neg hout]
  intro hjoin
  refine rn_plain ?_
  by_cases h0 : a = 0
  · refine pl_pure hT rfl rfl rfl ?_
    refine pl_val (.bool true) rfl rfl (val_int .i64 a 0 _ rfl rfl rfl (by simp [intOp, h0]) w1) ?_
    repeat (first | refine pl_pure hT rfl rfl rfl ?_ | refine pl_nil ?_ | refine pl_not rfl rfl ?_)
    refine rn_sub ?_ (hjoin _ w1 ⟨rfl, rfl⟩)
    rw [decide_eq_true (.inl h0)]
    exact ⟨rfl, rfl, rfl, rfl, trivial⟩
  · refine pl_pure hT rfl rfl rfl ?_
    refine pl_val (.bool false) rfl rfl (val_int .i64 a 0 _ rfl rfl rfl (by simp [intOp, h0]) w1) ?_
    repeat (first | refine pl_pure hT rfl rfl rfl ?_)
    refine pl_op rfl rfl (opTo_call rfl rfl rfl rfl (by decide +kernel) ((dHas_ret a _).mono ?_))
    rintro v w1 ⟨rfl, rfl⟩
    repeat (first | refine pl_pure hT rfl rfl rfl ?_ | refine pl_nil ?_)
    refine rn_sub ?_ (hjoin _ w1 ⟨rfl, rfl⟩)
    rw [show decide (a = 0 ∨ hasB a = false) = !hasB a by cases hasB a <;> simp [h0]]
    exact ⟨rfl, rfl, rfl, rfl, trivial⟩
end E
end Go.Proofs.YtmplkogkphmmjagGreat
