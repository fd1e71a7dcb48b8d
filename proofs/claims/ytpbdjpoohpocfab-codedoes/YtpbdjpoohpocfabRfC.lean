/- Contracts of the document's looking at statements, and of ProgramFault. -/
import Derived.Test.YtpbdjpoohpocfabRfB
namespace Go.Proofs.Ytpbdjpoohpocfab
set_option maxRecDepth 20000
set_option maxHeartbeats 4000000
namespace E
open Go.Proofs

def x1 (op : Int) (e f : ET) : Bool := (needE op || zeroE e) && (needF op || zeroE f)
def x2 (op : Int) (lb lo : Nat) : Bool := (needB op || (lb : Int) == 0) && (needO op || (lo : Int) == 0)
theorem fits_x (op : Int) (e f : ET) (lb lo : Nat) : fitsS op e f lb lo = (x1 op e f && x2 op lb lo) := by
  unfold fitsS x1 x2
  cases needE op <;> cases zeroE e <;> cases needF op <;> cases zeroE f <;> cases needB op <;> cases ((lb : Int) == 0) <;> cases needO op <;> cases ((lo : Int) == 0) <;> rfl

/-- A statement in its box, and the looking beside it. -/
structure Lk (F : Nat → Prop) (w0 w : World) (j x nv capv : Nat) (av : Option Addr) (b : Value) (n : Nat) (c : Int) (sc : List Value) : Prop where
  hj : Blk w j (lkC (.slice av nv capv) b n c) tLk
  hx : Blk w x sc 119
  hk : Keep [j] w0 w

section
variable {F : Nat → Prop} {w0 w w' : World} {j x nv capv : Nat} {av : Option Addr} {b : Value} {n n' : Nat} {c c' : Int} {sc : List Value}
theorem Lk.turn (h : Lk F w0 w j x nv capv av b n c sc) (hj : Blk w' j (lkC (.slice av nv capv) b n' c') tLk) (hk : Keep [j] w w') : Lk F w0 w' j x nv capv av b n' c' sc :=
  ⟨hj, hk.blk h.hx (by simpa using h.hx.ne h.hj (by decide)), h.hk.tr hk⟩
theorem Lk.keep (h : Lk F w0 w j x nv capv av b n c sc) (hk : Keep [] w w') : Lk F w0 w' j x nv capv av b n c sc :=
  ⟨hk.blk h.hj (by simp), hk.blk h.hx (by simp), h.hk.tr (Keep.of0 hk)⟩
end

theorem lookList_ret {j nv capv : Nat} {av : Option Addr} {b : Value} : ∀ (s : Nat) (l : List ST), szSs l < s → szSs l ≤ 1000 → ∀ {F : Nat → Prop} {w : World} {xl : Value} (deep n : Nat) (c : Int), StmtsV F w xl l → In F w → ¬ F j → Blk w j (lkC (.slice av nv capv) b n c) tLk → (deep ≤ 13 ∨ (c ≠ 0 ∧ deep ≤ 14)) → n ≤ 151 → (c = 0 → n ≤ 150) →
    Ret Try.prog 70 [.pointer (some ⟨j, 0, none⟩), xl, .int .i64 (deep : Nat)] w fun r w' => r = .tuple #[] ∧ (∃ n' c', Blk w' j (lkC (.slice av nv capv) b n' c') tLk ∧ Tr (chkSs nv l deep) n c n' c') ∧ Keep [j] w w' := by
  intro s
  induction s with
  | zero => intro l hl; omega
  | succ s ih =>
    intro l hl hl3 F w xl deep n c h hF hFj hJ hdeep hn hn0
    obtain ⟨a, cap, rfl⟩ := h.form
    have hlen := szSs_len l
    refine ret_of 123 Try.func70 rfl rfl (by simp) ?_
    (repeat (first | refine pl_pure hT rfl rfl rfl ?_ | refine pl_nil ?_ | refine rn_seq ?_ | refine rn_plain ?_ | refine rn_block ?_ | refine rn_inBlock ?_ | refine rn_skip ?_ | refine rn_true rfl ?_ | refine rn_false rfl ?_ | refine rn_exit rfl ?_ | refine pl_not rfl rfl ?_))
    refine rn_ind (fun m σ w' => ∃ (i ni : Nat) (ci : Int), i ≤ l.length ∧ m = l.length - i ∧ σ = [(0, .pointer (some ⟨j, 0, none⟩)), (1, .slice a l.length cap), (2, .int .i64 (deep : Nat)), (6, .int .i64 (i : Nat))] ∧ Blk w' j (lkC (.slice av nv capv) b ni ci) tLk ∧ Keep [j] w w' ∧ ni ≤ 151 ∧ (ci = 0 → ni ≤ 150) ∧
      ((c = 0 ∧ ci = 0 ∧ chkSs nv (l.take i) deep n = .ok ni) ∨ (ci ≠ 0 ∧ ((c = 0 ∧ chkSs nv l deep n = .error ci) ∨ (c ≠ 0 ∧ ni = n ∧ ci = c))))) l.length _ ?_ ⟨0, n, c, by omega, by omega, rfl, hJ, Keep.refl _ _, hn, hn0, ?_⟩ ?_
    · exact ⟨rfl, rfl, rfl, rfl, trivial⟩
    · by_cases hc : c = 0
      · exact .inl ⟨hc, hc, by simp [chkSs]⟩
      · exact .inr ⟨hc, .inr ⟨hc, rfl, rfl⟩⟩
    rintro m σ w2 ih2 ⟨i, ni, ci, hi, rfl, rfl, hJ2, hk2, hni, hni0, hor⟩
    have hJ2' := hJ2
    unfold lkC at hJ2'
    have hend : (i = l.length ∨ ci ≠ 0) → Tr (chkSs nv l deep) n c ni ci := by
      intro hx
      rcases hor with ⟨hc, hci, hch⟩ | ⟨hci, hr⟩
      · have hil : i = l.length := by
          rcases hx with hx | hx
          · exact hx
          · exact absurd hci hx
        rw [hil, List.take_length] at hch
        exact ⟨fun h => absurd hc h, fun _ => ⟨fun q hq => (by rw [hch] at hq; injection hq with hq; exact ⟨hq, hci⟩), fun e he => (by rw [hch] at he; cases he)⟩, hni, hni0⟩
      · rcases hr with ⟨hc, hch⟩ | ⟨hc, h1, h2⟩
        · exact ⟨fun h => absurd hc h, fun _ => ⟨fun q hq => (by rw [hch] at hq; cases hq), fun e he => (by rw [hch] at he; injection he)⟩, hni, hni0⟩
        · exact ⟨fun _ => ⟨h1, h2⟩, fun h => absurd h hc, hni, hni0⟩
    (repeat (first | refine pl_pure hT rfl rfl rfl ?_ | refine pl_nil ?_ | refine rn_seq ?_ | refine rn_plain ?_ | refine rn_block ?_ | refine rn_inBlock ?_ | refine rn_skip ?_ | refine rn_true rfl ?_ | refine rn_false rfl ?_ | refine rn_exit rfl ?_ | refine pl_not rfl rfl ?_))
    by_cases hlt : i < l.length
    · by_cases hcz : ci = 0
      · subst hcz
        obtain ⟨hc0, hch⟩ : c = 0 ∧ chkSs nv (l.take i) deep n = .ok ni := by
          rcases hor with ⟨hc, _, hch⟩ | ⟨hci, _⟩
          · exact ⟨hc, hch⟩
          · exact absurd rfl hci
        have hni150 := hni0 rfl
        have hd13 : deep ≤ 13 := hdeep.elim id fun h => absurd hc0 h.1
        clear hend hor hdeep hn0
        have hget : l[i]? = some l[i] := List.getElem?_eq_getElem hlt
        have hsz := szSs_at hget
        obtain ⟨op, v, e, f, lb, lo, hs⟩ : ∃ op v e f lb lo, l[i] = ST.mk op v e f lb lo := by cases l[i]; exact ⟨_, _, _, _, _, _, rfl⟩
        rw [hs] at hget hsz
        simp only [szS] at hsz
        have hat := chkSs_at hget hch
        obtain ⟨bb, q, cap', ce, cf, bv, ov, hvv, hst⟩ := (h.keep hk2 (stays_but hF hFj)).stmtAt hget
        cases hvv
        have hF2 := hF.keep hk2
        obtain ⟨e0, e1, e2, e3, rfl⟩ := list4 hst.he.length
        obtain ⟨f0, f1, f2, f3, rfl⟩ := list4 hst.hf.length
        obtain ⟨ab, capb, rfl⟩ := hst.hb.form
        obtain ⟨ao, capo, rfl⟩ := hst.ho.form
        (repeat (first | refine pl_pure hT rfl rfl rfl ?_ | refine pl_nil ?_ | refine rn_seq ?_ | refine rn_plain ?_ | refine rn_block ?_ | refine rn_inBlock ?_ | refine rn_skip ?_ | refine rn_true rfl ?_ | refine rn_false rfl ?_ | refine rn_exit rfl ?_ | refine pl_not rfl rfl ?_ | refine pl_val _ rfl rfl (val_load1 hT rfl rfl rfl (Blk.cell (by assumption) (by rfl))) ?_ | refine pl_yes rfl rfl rfl rfl rfl (by first | (simp only [cmpP]; omega) | (simp [cmpP]; done) | (simp [cmpP]; omega)) ?_ | refine pl_no rfl rfl rfl rfl rfl rfl (by first | (simp only [cmpP]; omega) | (simp [cmpP]; done) | (simp [cmpP]; omega)) ?_))
        refine pl_val _ rfl rfl (val_index i hT rfl rfl rfl rfl rfl hlt w2) ?_
        refine pl_val _ rfl rfl (val_load [.int .i64 op, .int .i64 v, e0, e1, e2, e3, f0, f1, f2, f3, .slice ab lb.length capb, .slice ao lo.length capo] hT rfl rfl rfl hst.whole) ?_
        refine pl_op rfl rfl (opTo_allocN _ rfl zero_stmt ?_)
        intro w3 x hx3 hs3 hk3 hX3
        refine pl_op rfl rfl (opTo_storeN _ rfl rfl rfl rfl (by kernel_rfl) hX3 (by simp [stmtZ]) hst.stmt.one ?_)
        intro w4 hs4 hk4 hX4
        rw [splice_whole (by rfl)] at hX4
        have hk24 : Keep [] w2 w4 := hk3.trB hk4 (by omega)
        have hL4 : Lk F w2 w4 j x nv capv av b ni 0 [.int .i64 op, .int .i64 v, e0, e1, e2, e3, f0, f1, f2, f3, .slice ab lb.length capb, .slice ao lo.length capo] := ⟨hk24.blk hJ2 (by simp), hX4, Keep.of0 hk24⟩
        clear hk3 hk4 hX3 hX4 hk24
        (repeat (first | refine pl_pure hT rfl rfl rfl ?_ | refine pl_nil ?_ | refine rn_seq ?_ | refine rn_plain ?_ | refine rn_block ?_ | refine rn_inBlock ?_ | refine rn_skip ?_ | refine rn_true rfl ?_ | refine rn_false rfl ?_ | refine rn_exit rfl ?_ | refine pl_not rfl rfl ?_))
        refine pl_op rfl rfl (opTo_call rfl rfl rfl rfl (by decide +kernel) ((head_ret hL4.hj (deep : Nat) (by omega)).mono ?_))
        rintro v5 w5 ⟨rfl, hJ5, hk5⟩
        have hL5 := hL4.turn hJ5 hk5
        have hst2 := stays_but hF2 hFj
        refine pl_nil ?_
        refine rn_seq ?_
        refine rn_with (fun σ' w' => ∃ c6, c6 = badC (!knownS op) (badC (decide (ni + 1 > 150)) (badC (decide ((deep : Int) > 12)) 0 4) 3) 2 ∧ Lk F w2 w' j x nv capv av b (ni + 1) c6 [.int .i64 op, .int .i64 v, e0, e1, e2, e3, f0, f1, f2, f3, .slice ab lb.length capb, .slice ao lo.length capo] ∧ Sub [(0, .pointer (some ⟨j, 0, none⟩)), (1, .slice (some ⟨bb, q, none⟩) l.length cap), (2, .int .i64 (deep : Nat)), (6, .int .i64 (i : Nat)), (7, .pointer (some ⟨x, 0, none⟩))] σ') ?_ ?_
        · rintro σ' w6 ⟨c6, hc6, hL6, hsub⟩
          refine rn_sub hsub ?_
          refine rn_seq ?_
          refine rn_with (fun σ' w' => ∃ c7, c7 = badC (!x1 op e f) c6 5 ∧ Lk F w2 w' j x nv capv av b (ni + 1) c7 [.int .i64 op, .int .i64 v, e0, e1, e2, e3, f0, f1, f2, f3, .slice ab lb.length capb, .slice ao lo.length capo] ∧ Sub [(0, .pointer (some ⟨j, 0, none⟩)), (1, .slice (some ⟨bb, q, none⟩) l.length cap), (2, .int .i64 (deep : Nat)), (6, .int .i64 (i : Nat)), (7, .pointer (some ⟨x, 0, none⟩))] σ') ?_ ?_
          · rintro σ' w7 ⟨c7, hc7, hL7, hsub⟩
            refine rn_sub hsub ?_
            refine rn_seq ?_
            refine rn_with (fun σ' w' => ∃ c8, c8 = badC (!x2 op lb.length lo.length) c7 5 ∧ Lk F w2 w' j x nv capv av b (ni + 1) c8 [.int .i64 op, .int .i64 v, e0, e1, e2, e3, f0, f1, f2, f3, .slice ab lb.length capb, .slice ao lo.length capo] ∧ Sub [(0, .pointer (some ⟨j, 0, none⟩)), (1, .slice (some ⟨bb, q, none⟩) l.length cap), (2, .int .i64 (deep : Nat)), (6, .int .i64 (i : Nat)), (7, .pointer (some ⟨x, 0, none⟩))] σ') ?_ ?_
            · rintro σ' w8 ⟨c8, hc8, hL8, hsub⟩
              refine rn_sub hsub ?_
              (repeat (first | refine pl_pure hT rfl rfl rfl ?_ | refine pl_nil ?_ | refine rn_seq ?_ | refine rn_plain ?_ | refine rn_block ?_ | refine rn_inBlock ?_ | refine rn_skip ?_ | refine rn_true rfl ?_ | refine rn_false rfl ?_ | refine rn_exit rfl ?_ | refine pl_not rfl rfl ?_))
              refine rn_draw (fun w' => Keep [] w8 w') [6] hMix ?_
              have hS : Keep [] w8 w8.drew := (Keep.refl _ _).drew
              generalize w8.drew = w9 at *
              refine dr_pure 0 hT rfl (by decide +kernel) rfl rfl rfl ?_
              refine dr_pure 1 hT rfl (by decide +kernel) rfl rfl rfl ?_
              refine dr_val 2 _ rfl (by decide +kernel) rfl rfl (fun w9 hS9 => val_load1 hT rfl rfl rfl ((hS9.blk hL8.hx (by simp)).cell rfl)) hS ?_
              refine dr_pure 3 hT rfl (by decide +kernel) rfl rfl rfl ?_
              refine dr_val 4 _ rfl (by decide +kernel) rfl rfl (fun w9 hS9 => val_load1 hT rfl rfl rfl ((hS9.blk hL8.hx (by simp)).cell rfl)) hS ?_
              have hN := needed_ret op 118 w9
              rw [(needC_all op).2.2.1] at hN
              refine dr_op 5 rfl (by decide +kernel) rfl rfl (opTo_call rfl rfl rfl rfl (by decide +kernel) (hN.mono ?_))
              rintro v10 w10 ⟨rfl, rfl⟩
              refine ⟨fun _ => hS, ?_⟩
              refine dr_op 6 rfl (by decide +kernel) rfl rfl (opTo_call rfl rfl rfl rfl (by decide +kernel) ((variable_ret (hS.blk hL8.hj (by simp)) v (needV op)).mono ?_))
              rintro v11 w11 ⟨rfl, hJ11, hk11⟩
              refine ⟨fun h => absurd h (by simp), ?_⟩
              refine dr_done (by decide +kernel) ?_
              have hck : varC nv v (needV op) c8 = lookK nv ni (deep : Nat) (knownS op) (fitsS op e f lb.length lo.length) (needV op) v := by
                rw [hc8, hc7, hc6, fits_x]
                exact look_chain nv ni (deep : Nat) (knownS op) (x1 op e f) (x2 op lb.length lo.length) (needV op) v _ _ _ rfl (by cases x1 op e f <;> cases x2 op lb.length lo.length <;> rfl)
              have hL11 := (hL8.keep hS).turn hJ11 hk11
              generalize varC nv v (needV op) c8 = cc at *
              clear hc6 hc7 hc8 hL4 hL5 hL6 hL7 hL8 hS hJ5 hk5 hJ11 hk11 hN hJ2'
              have hcc0 : cc = 0 → ni + 1 ≤ 150 ∧ deep ≤ 12 := fun h => by have := look_room (hck.symm.trans h); omega
              -- E
              refine rn_seq ?_
              refine rn_with (fun σ' w' => ∃ n1 c1, Tr (fun k => if needE op then chkE nv e (deep + 1) k else .ok k) (ni + 1) cc n1 c1 ∧ Lk F w2 w' j x nv capv av b n1 c1 [.int .i64 op, .int .i64 v, e0, e1, e2, e3, f0, f1, f2, f3, .slice ab lb.length capb, .slice ao lo.length capo] ∧ Sub [(0, .pointer (some ⟨j, 0, none⟩)), (1, .slice (some ⟨bb, q, none⟩) l.length cap), (2, .int .i64 (deep : Nat)), (6, .int .i64 (i : Nat)), (7, .pointer (some ⟨x, 0, none⟩))] σ') ?_ ?_
              · rintro σ' w12 ⟨n1, c1, hT1, hL12, hsub⟩
                refine rn_sub hsub ?_
                refine rn_seq ?_
                refine rn_with (fun σ' w' => ∃ n2 c2, Tr (fun k => if needF op then chkE nv f (deep + 1) k else .ok k) n1 c1 n2 c2 ∧ Lk F w2 w' j x nv capv av b n2 c2 [.int .i64 op, .int .i64 v, e0, e1, e2, e3, f0, f1, f2, f3, .slice ab lb.length capb, .slice ao lo.length capo] ∧ Sub [(0, .pointer (some ⟨j, 0, none⟩)), (1, .slice (some ⟨bb, q, none⟩) l.length cap), (2, .int .i64 (deep : Nat)), (6, .int .i64 (i : Nat)), (7, .pointer (some ⟨x, 0, none⟩))] σ') ?_ ?_
                · rintro σ' w13 ⟨n2, c2, hT2, hL13, hsub⟩
                  refine rn_sub hsub ?_
                  have hd2 : (deep + 1 ≤ 13 ∨ (c2 ≠ 0 ∧ deep + 1 ≤ 14)) := by
                    by_cases hz : cc = 0
                    · exact .inl (by have := hcc0 hz; omega)
                    · have h1 := hT1.1 hz
                      have h2 := hT2.1 (by rw [h1.2]; exact hz)
                      exact .inr ⟨by rw [h2.2, h1.2]; exact hz, by omega⟩
                  (repeat (first | refine pl_pure hT rfl rfl rfl ?_ | refine pl_nil ?_ | refine rn_seq ?_ | refine rn_plain ?_ | refine rn_block ?_ | refine rn_inBlock ?_ | refine rn_skip ?_ | refine rn_true rfl ?_ | refine rn_false rfl ?_ | refine rn_exit rfl ?_ | refine pl_not rfl rfl ?_))
                  refine pl_val _ rfl rfl (val_load1 hT rfl rfl rfl (hL13.hx.cell rfl)) ?_
                  (repeat (first | refine pl_pure hT rfl rfl rfl ?_ | refine pl_nil ?_ | refine rn_seq ?_ | refine rn_plain ?_ | refine rn_block ?_ | refine rn_inBlock ?_ | refine rn_skip ?_ | refine rn_true rfl ?_ | refine rn_false rfl ?_ | refine rn_exit rfl ?_ | refine pl_not rfl rfl ?_))
                  refine pl_num (((deep + 1 : Nat) : Int)) rfl rfl rfl rfl rfl (by simp only [ariP]; omega) ?_
                  refine pl_op rfl rfl (opTo_call rfl rfl rfl rfl (by decide +kernel) ((ih lb (by omega) (by omega) (deep + 1) n2 c2 (hst.hb.keep hL13.hk hst2) (hF2.keep hL13.hk) hFj hL13.hj hd2 hT2.2.2.1 hT2.2.2.2).mono ?_))
                  rintro v14 w14 ⟨rfl, ⟨n3, c3, hJ14, hT3⟩, hk14⟩
                  have hL14 := hL13.turn hJ14 hk14
                  have hd3 : (deep + 1 ≤ 13 ∨ (c3 ≠ 0 ∧ deep + 1 ≤ 14)) := by
                    rcases hd2 with h | ⟨h, h'⟩
                    · exact .inl h
                    · exact .inr ⟨by rw [(hT3.1 h).2]; exact h, h'⟩
                  (repeat (first | refine pl_pure hT rfl rfl rfl ?_ | refine pl_nil ?_ | refine rn_seq ?_ | refine rn_plain ?_ | refine rn_block ?_ | refine rn_inBlock ?_ | refine rn_skip ?_ | refine rn_true rfl ?_ | refine rn_false rfl ?_ | refine rn_exit rfl ?_ | refine pl_not rfl rfl ?_))
                  refine pl_val _ rfl rfl (val_load1 hT rfl rfl rfl (hL14.hx.cell rfl)) ?_
                  (repeat (first | refine pl_pure hT rfl rfl rfl ?_ | refine pl_nil ?_ | refine rn_seq ?_ | refine rn_plain ?_ | refine rn_block ?_ | refine rn_inBlock ?_ | refine rn_skip ?_ | refine rn_true rfl ?_ | refine rn_false rfl ?_ | refine rn_exit rfl ?_ | refine pl_not rfl rfl ?_))
                  refine pl_num (((deep + 1 : Nat) : Int)) rfl rfl rfl rfl rfl (by simp only [ariP]; omega) ?_
                  refine pl_op rfl rfl (opTo_call rfl rfl rfl rfl (by decide +kernel) ((ih lo (by omega) (by omega) (deep + 1) n3 c3 (hst.ho.keep hL14.hk hst2) (hF2.keep hL14.hk) hFj hL14.hj hd3 hT3.2.2.1 hT3.2.2.2).mono ?_))
                  rintro v15 w15 ⟨rfl, ⟨n4, c4, hJ15, hT4⟩, hk15⟩
                  have hL15 := hL14.turn hJ15 hk15
                  (repeat (first | refine pl_pure hT rfl rfl rfl ?_ | refine pl_nil ?_ | refine rn_seq ?_ | refine rn_plain ?_ | refine rn_block ?_ | refine rn_inBlock ?_ | refine rn_skip ?_ | refine rn_true rfl ?_ | refine rn_false rfl ?_ | refine rn_exit rfl ?_ | refine pl_not rfl rfl ?_))
                  refine pl_num (((i + 1 : Nat) : Int)) rfl rfl rfl rfl rfl (by simp only [ariP]; omega) ?_
                  (repeat (first | refine pl_pure hT rfl rfl rfl ?_ | refine pl_nil ?_ | refine rn_seq ?_ | refine rn_plain ?_ | refine rn_block ?_ | refine rn_inBlock ?_ | refine rn_skip ?_ | refine rn_true rfl ?_ | refine rn_false rfl ?_ | refine rn_exit rfl ?_ | refine pl_not rfl rfl ?_))
                  have hTT := Tr.seq hT1 (coded_ite (codedE nv e _ _) (coded_ok _)) (Tr.seq hT2 (coded_ite (codedE nv f _ _) (coded_ok _)) (Tr.seq hT3 (codedSs nv lb _ _) hT4))
                  have hkw15 : Keep [j] w w15 := hk2.tr hL15.hk
                  refine rn_sub ?_ (ih2 (l.length - (i + 1)) [(0, .pointer (some ⟨j, 0, none⟩)), (1, .slice (some ⟨bb, q, none⟩) l.length cap), (2, .int .i64 (deep : Nat)), (6, .int .i64 ((i + 1 : Nat) : Int))] w15 (by omega)
                    ⟨i + 1, n4, c4, by omega, rfl, rfl, hL15.hj, hkw15, hTT.2.2.1, hTT.2.2.2, ?_⟩)
                  · exact ⟨rfl, rfl, rfl, rfl, trivial⟩
                  · by_cases hz : cc = 0
                    · have hS : chkS nv (.mk op v e f lb lo) deep ni = _ := chkS_look nv deep ni op v e f lb lo
                      rw [← hck, if_neg (by simp [hz])] at hS
                      have ht := hTT.2.1 hz
                      cases hxs : chkS nv (.mk op v e f lb lo) deep ni with
                      | ok q' =>
                        obtain ⟨rfl, rfl⟩ := ht.1 q' (by rw [← hxs, hS])
                        exact .inl ⟨hc0, rfl, by rw [hat.1, hxs]⟩
                      | error er =>
                        have := ht.2 er (by rw [← hxs, hS])
                        subst this
                        exact .inr ⟨codedS nv _ _ _ _ hxs, .inl ⟨hc0, hat.2 _ hxs⟩⟩
                    · have ht := hTT.1 hz
                      have hxs : chkS nv (.mk op v e f lb lo) deep ni = .error cc := by rw [chkS_look, ← hck, if_pos hz]
                      rw [ht.2]
                      exact .inr ⟨hz, .inl ⟨hc0, hat.2 _ hxs⟩⟩
                · intro fin
                  (repeat (first | refine pl_pure hT rfl rfl rfl ?_ | refine pl_nil ?_ | refine rn_seq ?_ | refine rn_plain ?_ | refine rn_block ?_ | refine rn_inBlock ?_ | refine rn_skip ?_ | refine rn_true rfl ?_ | refine rn_false rfl ?_ | refine rn_exit rfl ?_ | refine pl_not rfl rfl ?_))
                  refine pl_val _ rfl rfl (val_load1 hT rfl rfl rfl (hL12.hx.cell rfl)) ?_
                  have hN := needed_ret op 102 w12
                  rw [(needC_all op).2.1] at hN
                  refine pl_op rfl rfl (opTo_call rfl rfl rfl rfl (by decide +kernel) (hN.mono ?_))
                  rintro v13 w13 ⟨rfl, rfl⟩
                  cases hbf : needF op with
                  | false =>
                    refine pl_nil ?_
                    refine rn_false rfl ?_
                    refine rn_skip ?_
                    exact fin _ _ ⟨n1, c1, by simp only [hbf]; exact Tr.id hT1.2.2.1 hT1.2.2.2, hL12, rfl, rfl, rfl, rfl, rfl, trivial⟩
                  | true =>
                    refine pl_nil ?_
                    refine rn_true rfl ?_
                    refine rn_plain ?_
                    (repeat (first | refine pl_pure hT rfl rfl rfl ?_ | refine pl_nil ?_ | refine rn_seq ?_ | refine rn_plain ?_ | refine rn_block ?_ | refine rn_inBlock ?_ | refine rn_skip ?_ | refine rn_true rfl ?_ | refine rn_false rfl ?_ | refine rn_exit rfl ?_ | refine pl_not rfl rfl ?_))
                    refine pl_val _ rfl rfl (val_load [f0, f1, f2, f3] hT rfl rfl rfl (hL12.hx.range (by rfl))) ?_
                    (repeat (first | refine pl_pure hT rfl rfl rfl ?_ | refine pl_nil ?_ | refine rn_seq ?_ | refine rn_plain ?_ | refine rn_block ?_ | refine rn_inBlock ?_ | refine rn_skip ?_ | refine rn_true rfl ?_ | refine rn_false rfl ?_ | refine rn_exit rfl ?_ | refine pl_not rfl rfl ?_))
                    refine pl_num (((deep + 1 : Nat) : Int)) rfl rfl rfl rfl rfl (by simp only [ariP]; omega) ?_
                    refine pl_op rfl rfl (opTo_call rfl rfl rfl rfl (by decide +kernel) ((lookExpr_ret _ f (Nat.le_refl _) (by omega) (deep + 1) n1 c1 (hst.hf.keep hL12.hk hst2) (hF2.keep hL12.hk) hFj hL12.hj (by omega) hT1.2.2.1 hT1.2.2.2).mono ?_))
                    rintro v14 w14 ⟨rfl, ⟨n2, c2, hJ14, hT2⟩, hk14⟩
                    refine pl_nil ?_
                    exact fin _ _ ⟨n2, c2, by simp only [hbf]; exact hT2, hL12.turn hJ14 hk14, rfl, rfl, rfl, rfl, rfl, trivial⟩
              · intro fin
                (repeat (first | refine pl_pure hT rfl rfl rfl ?_ | refine pl_nil ?_ | refine rn_seq ?_ | refine rn_plain ?_ | refine rn_block ?_ | refine rn_inBlock ?_ | refine rn_skip ?_ | refine rn_true rfl ?_ | refine rn_false rfl ?_ | refine rn_exit rfl ?_ | refine pl_not rfl rfl ?_))
                refine pl_val _ rfl rfl (val_load1 hT rfl rfl rfl (hL11.hx.cell rfl)) ?_
                have hN := needed_ret op 101 w11
                rw [(needC_all op).1] at hN
                refine pl_op rfl rfl (opTo_call rfl rfl rfl rfl (by decide +kernel) (hN.mono ?_))
                rintro v13 w13 ⟨rfl, rfl⟩
                cases hbe : needE op with
                | false =>
                  refine pl_nil ?_
                  refine rn_false rfl ?_
                  refine rn_skip ?_
                  exact fin _ _ ⟨ni + 1, cc, by simp only [hbe]; exact Tr.id (by omega) (fun h => (hcc0 h).1), hL11, rfl, rfl, rfl, rfl, rfl, trivial⟩
                | true =>
                  refine pl_nil ?_
                  refine rn_true rfl ?_
                  refine rn_plain ?_
                  (repeat (first | refine pl_pure hT rfl rfl rfl ?_ | refine pl_nil ?_ | refine rn_seq ?_ | refine rn_plain ?_ | refine rn_block ?_ | refine rn_inBlock ?_ | refine rn_skip ?_ | refine rn_true rfl ?_ | refine rn_false rfl ?_ | refine rn_exit rfl ?_ | refine pl_not rfl rfl ?_))
                  refine pl_val _ rfl rfl (val_load [e0, e1, e2, e3] hT rfl rfl rfl (hL11.hx.range (by rfl))) ?_
                  (repeat (first | refine pl_pure hT rfl rfl rfl ?_ | refine pl_nil ?_ | refine rn_seq ?_ | refine rn_plain ?_ | refine rn_block ?_ | refine rn_inBlock ?_ | refine rn_skip ?_ | refine rn_true rfl ?_ | refine rn_false rfl ?_ | refine rn_exit rfl ?_ | refine pl_not rfl rfl ?_))
                  refine pl_num (((deep + 1 : Nat) : Int)) rfl rfl rfl rfl rfl (by simp only [ariP]; omega) ?_
                  refine pl_op rfl rfl (opTo_call rfl rfl rfl rfl (by decide +kernel) ((lookExpr_ret _ e (Nat.le_refl _) (by omega) (deep + 1) (ni + 1) cc (hst.he.keep hL11.hk hst2) (hF2.keep hL11.hk) hFj hL11.hj (by omega) (by omega) (fun h => (hcc0 h).1)).mono ?_))
                  rintro v14 w14 ⟨rfl, ⟨n2, c2, hJ14, hT2⟩, hk14⟩
                  refine pl_nil ?_
                  exact fin _ _ ⟨n2, c2, by simp only [hbe]; exact hT2, hL11.turn hJ14 hk14, rfl, rfl, rfl, rfl, rfl, trivial⟩
            · intro fin
              (repeat (first | refine pl_pure hT rfl rfl rfl ?_ | refine pl_nil ?_ | refine rn_seq ?_ | refine rn_plain ?_ | refine rn_block ?_ | refine rn_inBlock ?_ | refine rn_skip ?_ | refine rn_true rfl ?_ | refine rn_false rfl ?_ | refine rn_exit rfl ?_ | refine pl_not rfl rfl ?_))
              refine pl_val _ rfl rfl (val_load1 hT rfl rfl rfl (hL7.hx.cell rfl)) ?_
              have hN := needed_ret op 98 w7
              rw [(needC_all op).2.2.2.1] at hN
              refine pl_op rfl rfl (opTo_call rfl rfl rfl rfl (by decide +kernel) (hN.mono ?_))
              rintro v8 w8 ⟨rfl, rfl⟩
              have hX8 := hL7.hx
              have hN2 := needed_ret op 111 w8
              rw [(needC_all op).2.2.2.2] at hN2
              have stop : ∀ (is : Bool), is = !x2 op lb.length lo.length → ∀ (σ : Env), True → Ret Try.prog 96 [.pointer (some ⟨j, 0, none⟩), .bool is, .int .i64 5] w8 fun r w' => r = .tuple #[] ∧ Lk F w2 w' j x nv capv av b (ni + 1) (badC (!x2 op lb.length lo.length) c7 5) [.int .i64 op, .int .i64 v, e0, e1, e2, e3, f0, f1, f2, f3, .slice ab lb.length capb, .slice ao lo.length capo] := fun is his σ _ => by
                subst his
                exact (bad_ret hL7.hj _ 5).mono fun r w' ⟨h1, h2, h3⟩ => ⟨h1, hL7.turn h2 h3⟩
              cases hbb : needB op with
              | true =>
                (repeat (first | refine pl_pure hT rfl rfl rfl ?_ | refine pl_nil ?_ | refine rn_seq ?_ | refine rn_plain ?_ | refine rn_block ?_ | refine rn_inBlock ?_ | refine rn_skip ?_ | refine rn_true rfl ?_ | refine rn_false rfl ?_ | refine rn_exit rfl ?_ | refine pl_not rfl rfl ?_ | refine pl_val _ rfl rfl (val_load1 hT rfl rfl rfl (Blk.cell (by assumption) (by rfl))) ?_ | refine pl_yes rfl rfl rfl rfl rfl (by first | (simp only [cmpP]; omega) | (simp [cmpP]; done) | (simp [cmpP]; omega)) ?_ | refine pl_no rfl rfl rfl rfl rfl rfl (by first | (simp only [cmpP]; omega) | (simp [cmpP]; done) | (simp [cmpP]; omega)) ?_))
                refine pl_op rfl rfl (opTo_call rfl rfl rfl rfl (by decide +kernel) (hN2.mono ?_))
                rintro v9 w9 ⟨rfl, rfl⟩
                cases hbo : needO op with
                | true =>
                  (repeat (first | refine pl_pure hT rfl rfl rfl ?_ | refine pl_nil ?_ | refine rn_seq ?_ | refine rn_plain ?_ | refine rn_block ?_ | refine rn_inBlock ?_ | refine rn_skip ?_ | refine rn_true rfl ?_ | refine rn_false rfl ?_ | refine rn_exit rfl ?_ | refine pl_not rfl rfl ?_))
                  refine pl_op rfl rfl (opTo_call rfl rfl rfl rfl (by decide +kernel) ((stop false (by simp [x2, hbb, hbo]) [] trivial).mono ?_))
                  rintro v10 w10 ⟨rfl, hL10⟩
                  refine pl_nil ?_
                  exact fin _ _ ⟨_, rfl, hL10, rfl, rfl, rfl, rfl, rfl, trivial⟩
                | false =>
                  (repeat (first | refine pl_pure hT rfl rfl rfl ?_ | refine pl_nil ?_ | refine rn_seq ?_ | refine rn_plain ?_ | refine rn_block ?_ | refine rn_inBlock ?_ | refine rn_skip ?_ | refine rn_true rfl ?_ | refine rn_false rfl ?_ | refine rn_exit rfl ?_ | refine pl_not rfl rfl ?_ | refine pl_val _ rfl rfl (val_load1 hT rfl rfl rfl (Blk.cell (by assumption) (by rfl))) ?_ | refine pl_yes rfl rfl rfl rfl rfl (by first | (simp only [cmpP]; omega) | (simp [cmpP]; done) | (simp [cmpP]; omega)) ?_ | refine pl_no rfl rfl rfl rfl rfl rfl (by first | (simp only [cmpP]; omega) | (simp [cmpP]; done) | (simp [cmpP]; omega)) ?_))
                  refine pl_val (.bool (!x2 op lb.length lo.length)) rfl rfl (val_int .i64 _ _ _ rfl rfl rfl (by simp only [intOp, x2, hbb, hbo]; congr 2; rw [Bool.eq_iff_iff]; simp [List.length_pos_iff]) _) ?_
                  (repeat (first | refine pl_pure hT rfl rfl rfl ?_ | refine pl_nil ?_ | refine rn_seq ?_ | refine rn_plain ?_ | refine rn_block ?_ | refine rn_inBlock ?_ | refine rn_skip ?_ | refine rn_true rfl ?_ | refine rn_false rfl ?_ | refine rn_exit rfl ?_ | refine pl_not rfl rfl ?_))
                  refine pl_op rfl rfl (opTo_call rfl rfl rfl rfl (by decide +kernel) ((stop _ rfl [] trivial).mono ?_))
                  rintro v10 w10 ⟨rfl, hL10⟩
                  refine pl_nil ?_
                  exact fin _ _ ⟨_, rfl, hL10, rfl, rfl, rfl, rfl, rfl, trivial⟩
              | false =>
                by_cases hlb : lb.length = 0
                · (repeat (first | refine pl_pure hT rfl rfl rfl ?_ | refine pl_nil ?_ | refine rn_seq ?_ | refine rn_plain ?_ | refine rn_block ?_ | refine rn_inBlock ?_ | refine rn_skip ?_ | refine rn_true rfl ?_ | refine rn_false rfl ?_ | refine rn_exit rfl ?_ | refine pl_not rfl rfl ?_ | refine pl_val _ rfl rfl (val_load1 hT rfl rfl rfl (Blk.cell (by assumption) (by rfl))) ?_ | refine pl_yes rfl rfl rfl rfl rfl (by first | (simp only [cmpP]; omega) | (simp [cmpP]; done) | (simp [cmpP]; omega)) ?_ | refine pl_no rfl rfl rfl rfl rfl rfl (by first | (simp only [cmpP]; omega) | (simp [cmpP]; done) | (simp [cmpP]; omega)) ?_))
                  refine pl_op rfl rfl (opTo_call rfl rfl rfl rfl (by decide +kernel) (hN2.mono ?_))
                  rintro v9 w9 ⟨rfl, rfl⟩
                  cases hbo : needO op with
                  | true =>
                    (repeat (first | refine pl_pure hT rfl rfl rfl ?_ | refine pl_nil ?_ | refine rn_seq ?_ | refine rn_plain ?_ | refine rn_block ?_ | refine rn_inBlock ?_ | refine rn_skip ?_ | refine rn_true rfl ?_ | refine rn_false rfl ?_ | refine rn_exit rfl ?_ | refine pl_not rfl rfl ?_))
                    refine pl_op rfl rfl (opTo_call rfl rfl rfl rfl (by decide +kernel) ((stop false (by simp [x2, hbb, hbo, hlb]) [] trivial).mono ?_))
                    rintro v10 w10 ⟨rfl, hL10⟩
                    refine pl_nil ?_
                    exact fin _ _ ⟨_, rfl, hL10, rfl, rfl, rfl, rfl, rfl, trivial⟩
                  | false =>
                    (repeat (first | refine pl_pure hT rfl rfl rfl ?_ | refine pl_nil ?_ | refine rn_seq ?_ | refine rn_plain ?_ | refine rn_block ?_ | refine rn_inBlock ?_ | refine rn_skip ?_ | refine rn_true rfl ?_ | refine rn_false rfl ?_ | refine rn_exit rfl ?_ | refine pl_not rfl rfl ?_ | refine pl_val _ rfl rfl (val_load1 hT rfl rfl rfl (Blk.cell (by assumption) (by rfl))) ?_ | refine pl_yes rfl rfl rfl rfl rfl (by first | (simp only [cmpP]; omega) | (simp [cmpP]; done) | (simp [cmpP]; omega)) ?_ | refine pl_no rfl rfl rfl rfl rfl rfl (by first | (simp only [cmpP]; omega) | (simp [cmpP]; done) | (simp [cmpP]; omega)) ?_))
                    refine pl_val (.bool (!x2 op lb.length lo.length)) rfl rfl (val_int .i64 _ _ _ rfl rfl rfl (by simp only [intOp, x2, hbb, hbo, hlb]; congr 2; rw [Bool.eq_iff_iff]; simp [List.length_pos_iff]) _) ?_
                    (repeat (first | refine pl_pure hT rfl rfl rfl ?_ | refine pl_nil ?_ | refine rn_seq ?_ | refine rn_plain ?_ | refine rn_block ?_ | refine rn_inBlock ?_ | refine rn_skip ?_ | refine rn_true rfl ?_ | refine rn_false rfl ?_ | refine rn_exit rfl ?_ | refine pl_not rfl rfl ?_))
                    refine pl_op rfl rfl (opTo_call rfl rfl rfl rfl (by decide +kernel) ((stop _ rfl [] trivial).mono ?_))
                    rintro v10 w10 ⟨rfl, hL10⟩
                    refine pl_nil ?_
                    exact fin _ _ ⟨_, rfl, hL10, rfl, rfl, rfl, rfl, rfl, trivial⟩
                · (repeat (first | refine pl_pure hT rfl rfl rfl ?_ | refine pl_nil ?_ | refine rn_seq ?_ | refine rn_plain ?_ | refine rn_block ?_ | refine rn_inBlock ?_ | refine rn_skip ?_ | refine rn_true rfl ?_ | refine rn_false rfl ?_ | refine rn_exit rfl ?_ | refine pl_not rfl rfl ?_ | refine pl_val _ rfl rfl (val_load1 hT rfl rfl rfl (Blk.cell (by assumption) (by rfl))) ?_ | refine pl_yes rfl rfl rfl rfl rfl (by first | (simp only [cmpP]; omega) | (simp [cmpP]; done) | (simp [cmpP]; omega)) ?_ | refine pl_no rfl rfl rfl rfl rfl rfl (by first | (simp only [cmpP]; omega) | (simp [cmpP]; done) | (simp [cmpP]; omega)) ?_))
                  refine pl_op rfl rfl (opTo_call rfl rfl rfl rfl (by decide +kernel) ((stop true (by simp [x2, hbb]; exact .inl (fun h => by subst h; simp at hlb)) [] trivial).mono ?_))
                  rintro v10 w10 ⟨rfl, hL10⟩
                  refine pl_nil ?_
                  exact fin _ _ ⟨_, rfl, hL10, rfl, rfl, rfl, rfl, rfl, trivial⟩
          · intro fin
            (repeat (first | refine pl_pure hT rfl rfl rfl ?_ | refine pl_nil ?_ | refine rn_seq ?_ | refine rn_plain ?_ | refine rn_block ?_ | refine rn_inBlock ?_ | refine rn_skip ?_ | refine rn_true rfl ?_ | refine rn_false rfl ?_ | refine rn_exit rfl ?_ | refine pl_not rfl rfl ?_))
            refine pl_val _ rfl rfl (val_load1 hT rfl rfl rfl (hL6.hx.cell rfl)) ?_
            have hN := needed_ret op 101 w6
            rw [(needC_all op).1] at hN
            refine pl_op rfl rfl (opTo_call rfl rfl rfl rfl (by decide +kernel) (hN.mono ?_))
            rintro v8 w8 ⟨rfl, rfl⟩
            have stop : ∀ (w9 : World) (is : Bool), is = !x1 op e f → Keep [] w8 w9 → Ret Try.prog 96 [.pointer (some ⟨j, 0, none⟩), .bool is, .int .i64 5] w9 fun r w' => r = .tuple #[] ∧ Lk F w2 w' j x nv capv av b (ni + 1) (badC (!x1 op e f) c6 5) [.int .i64 op, .int .i64 v, e0, e1, e2, e3, f0, f1, f2, f3, .slice ab lb.length capb, .slice ao lo.length capo] := fun w9 is his hk9 => by
              subst his
              exact (bad_ret (hL6.keep hk9).hj _ 5).mono fun r w' ⟨h1, h2, h3⟩ => ⟨h1, (hL6.keep hk9).turn h2 h3⟩
            have hX8 := hL6.hx
            cases hbe : needE op with
            | true =>
              (repeat (first | refine pl_pure hT rfl rfl rfl ?_ | refine pl_nil ?_ | refine rn_seq ?_ | refine rn_plain ?_ | refine rn_block ?_ | refine rn_inBlock ?_ | refine rn_skip ?_ | refine rn_true rfl ?_ | refine rn_false rfl ?_ | refine rn_exit rfl ?_ | refine pl_not rfl rfl ?_ | refine pl_val _ rfl rfl (val_load1 hT rfl rfl rfl (Blk.cell (by assumption) (by rfl))) ?_ | refine pl_yes rfl rfl rfl rfl rfl (by first | (simp only [cmpP]; omega) | (simp [cmpP]; done) | (simp [cmpP]; omega)) ?_ | refine pl_no rfl rfl rfl rfl rfl rfl (by first | (simp only [cmpP]; omega) | (simp [cmpP]; done) | (simp [cmpP]; omega)) ?_))
              have hN2 := needed_ret op 102 w8
              rw [(needC_all op).2.1] at hN2
              refine pl_op rfl rfl (opTo_call rfl rfl rfl rfl (by decide +kernel) (hN2.mono ?_))
              rintro v9 w9 ⟨rfl, rfl⟩
              cases hbf : needF op with
              | true =>
                (repeat (first | refine pl_pure hT rfl rfl rfl ?_ | refine pl_nil ?_ | refine rn_seq ?_ | refine rn_plain ?_ | refine rn_block ?_ | refine rn_inBlock ?_ | refine rn_skip ?_ | refine rn_true rfl ?_ | refine rn_false rfl ?_ | refine rn_exit rfl ?_ | refine pl_not rfl rfl ?_))
                refine pl_op rfl rfl (opTo_call rfl rfl rfl rfl (by decide +kernel) ((stop _ false (by simp [x1, hbe, hbf]) (Keep.refl _ _)).mono ?_))
                rintro v10 w10 ⟨rfl, hL10⟩
                refine pl_nil ?_
                exact fin _ _ ⟨_, rfl, hL10, rfl, rfl, rfl, rfl, rfl, trivial⟩
              | false =>
                (repeat (first | refine pl_pure hT rfl rfl rfl ?_ | refine pl_nil ?_ | refine rn_seq ?_ | refine rn_plain ?_ | refine rn_block ?_ | refine rn_inBlock ?_ | refine rn_skip ?_ | refine rn_true rfl ?_ | refine rn_false rfl ?_ | refine rn_exit rfl ?_ | refine pl_not rfl rfl ?_))
                refine pl_val _ rfl rfl (val_load [f0, f1, f2, f3] hT rfl rfl rfl (hX8.range (by rfl))) ?_
                refine pl_op rfl rfl (opTo_call rfl rfl rfl rfl (by decide +kernel) ((zeroExpr_ret (hst.hf.keep hL6.hk hst2)).mono ?_))
                rintro v10 w10 ⟨rfl, hk10⟩
                (repeat (first | refine pl_pure hT rfl rfl rfl ?_ | refine pl_nil ?_ | refine rn_seq ?_ | refine rn_plain ?_ | refine rn_block ?_ | refine rn_inBlock ?_ | refine rn_skip ?_ | refine rn_true rfl ?_ | refine rn_false rfl ?_ | refine rn_exit rfl ?_ | refine pl_not rfl rfl ?_))
                refine pl_op rfl rfl (opTo_call rfl rfl rfl rfl (by decide +kernel) ((stop _ _ (by simp [x1, hbe, hbf]) hk10).mono ?_))
                rintro v11 w11 ⟨rfl, hL11⟩
                refine pl_nil ?_
                exact fin _ _ ⟨_, rfl, hL11, rfl, rfl, rfl, rfl, rfl, trivial⟩
            | false =>
              (repeat (first | refine pl_pure hT rfl rfl rfl ?_ | refine pl_nil ?_ | refine rn_seq ?_ | refine rn_plain ?_ | refine rn_block ?_ | refine rn_inBlock ?_ | refine rn_skip ?_ | refine rn_true rfl ?_ | refine rn_false rfl ?_ | refine rn_exit rfl ?_ | refine pl_not rfl rfl ?_))
              refine pl_val _ rfl rfl (val_load [e0, e1, e2, e3] hT rfl rfl rfl (hX8.range (by rfl))) ?_
              refine pl_op rfl rfl (opTo_call rfl rfl rfl rfl (by decide +kernel) ((zeroExpr_ret (hst.he.keep hL6.hk hst2)).mono ?_))
              rintro v9 w9 ⟨rfl, hk9⟩
              cases hz1 : zeroE e with
              | false =>
                (repeat (first | refine pl_pure hT rfl rfl rfl ?_ | refine pl_nil ?_ | refine rn_seq ?_ | refine rn_plain ?_ | refine rn_block ?_ | refine rn_inBlock ?_ | refine rn_skip ?_ | refine rn_true rfl ?_ | refine rn_false rfl ?_ | refine rn_exit rfl ?_ | refine pl_not rfl rfl ?_))
                refine pl_op rfl rfl (opTo_call rfl rfl rfl rfl (by decide +kernel) ((stop _ true (by simp [x1, hbe, hz1]) hk9).mono ?_))
                rintro v11 w11 ⟨rfl, hL11⟩
                refine pl_nil ?_
                exact fin _ _ ⟨_, rfl, hL11, rfl, rfl, rfl, rfl, rfl, trivial⟩
              | true =>
                have hX9 := hk9.blk hX8 (by simp)
                (repeat (first | refine pl_pure hT rfl rfl rfl ?_ | refine pl_nil ?_ | refine rn_seq ?_ | refine rn_plain ?_ | refine rn_block ?_ | refine rn_inBlock ?_ | refine rn_skip ?_ | refine rn_true rfl ?_ | refine rn_false rfl ?_ | refine rn_exit rfl ?_ | refine pl_not rfl rfl ?_ | refine pl_val _ rfl rfl (val_load1 hT rfl rfl rfl (Blk.cell (by assumption) (by rfl))) ?_ | refine pl_yes rfl rfl rfl rfl rfl (by first | (simp only [cmpP]; omega) | (simp [cmpP]; done) | (simp [cmpP]; omega)) ?_ | refine pl_no rfl rfl rfl rfl rfl rfl (by first | (simp only [cmpP]; omega) | (simp [cmpP]; done) | (simp [cmpP]; omega)) ?_))
                have hN2 := needed_ret op 102 w9
                rw [(needC_all op).2.1] at hN2
                refine pl_op rfl rfl (opTo_call rfl rfl rfl rfl (by decide +kernel) (hN2.mono ?_))
                rintro v10 w10 ⟨rfl, rfl⟩
                cases hbf : needF op with
                | true =>
                  (repeat (first | refine pl_pure hT rfl rfl rfl ?_ | refine pl_nil ?_ | refine rn_seq ?_ | refine rn_plain ?_ | refine rn_block ?_ | refine rn_inBlock ?_ | refine rn_skip ?_ | refine rn_true rfl ?_ | refine rn_false rfl ?_ | refine rn_exit rfl ?_ | refine pl_not rfl rfl ?_))
                  refine pl_op rfl rfl (opTo_call rfl rfl rfl rfl (by decide +kernel) ((stop _ false (by simp [x1, hbe, hbf, hz1]) hk9).mono ?_))
                  rintro v11 w11 ⟨rfl, hL11⟩
                  refine pl_nil ?_
                  exact fin _ _ ⟨_, rfl, hL11, rfl, rfl, rfl, rfl, rfl, trivial⟩
                | false =>
                  (repeat (first | refine pl_pure hT rfl rfl rfl ?_ | refine pl_nil ?_ | refine rn_seq ?_ | refine rn_plain ?_ | refine rn_block ?_ | refine rn_inBlock ?_ | refine rn_skip ?_ | refine rn_true rfl ?_ | refine rn_false rfl ?_ | refine rn_exit rfl ?_ | refine pl_not rfl rfl ?_))
                  refine pl_val _ rfl rfl (val_load [f0, f1, f2, f3] hT rfl rfl rfl (hX9.range (by rfl))) ?_
                  refine pl_op rfl rfl (opTo_call rfl rfl rfl rfl (by decide +kernel) ((zeroExpr_ret ((hst.hf.keep hL6.hk hst2).keep hk9 (hF2.keep hL6.hk).stays)).mono ?_))
                  rintro v11 w11 ⟨rfl, hk11⟩
                  (repeat (first | refine pl_pure hT rfl rfl rfl ?_ | refine pl_nil ?_ | refine rn_seq ?_ | refine rn_plain ?_ | refine rn_block ?_ | refine rn_inBlock ?_ | refine rn_skip ?_ | refine rn_true rfl ?_ | refine rn_false rfl ?_ | refine rn_exit rfl ?_ | refine pl_not rfl rfl ?_))
                  refine pl_op rfl rfl (opTo_call rfl rfl rfl rfl (by decide +kernel) ((stop _ _ (by simp [x1, hbe, hbf, hz1]) (hk9.tr hk11)).mono ?_))
                  rintro v12 w12 ⟨rfl, hL12⟩
                  refine pl_nil ?_
                  exact fin _ _ ⟨_, rfl, hL12, rfl, rfl, rfl, rfl, rfl, trivial⟩
        · intro fin
          have hX5 := hL5.hx
          by_cases h1 : op < 1
          · (repeat (first | refine pl_pure hT rfl rfl rfl ?_ | refine pl_nil ?_ | refine rn_seq ?_ | refine rn_plain ?_ | refine rn_block ?_ | refine rn_inBlock ?_ | refine rn_skip ?_ | refine rn_true rfl ?_ | refine rn_false rfl ?_ | refine rn_exit rfl ?_ | refine pl_not rfl rfl ?_ | refine pl_val _ rfl rfl (val_load1 hT rfl rfl rfl (Blk.cell (by assumption) (by rfl))) ?_ | refine pl_yes rfl rfl rfl rfl rfl (by first | (simp only [cmpP]; omega) | (simp [cmpP]; done) | (simp [cmpP]; omega)) ?_ | refine pl_no rfl rfl rfl rfl rfl rfl (by first | (simp only [cmpP]; omega) | (simp [cmpP]; done) | (simp [cmpP]; omega)) ?_))
            refine pl_op rfl rfl (opTo_call rfl rfl rfl rfl (by decide +kernel) ((bad_ret hL5.hj true 2).mono ?_))
            rintro v6 w6 ⟨rfl, hJ6, hk6⟩
            refine pl_nil ?_
            exact fin _ _ ⟨_, by simp [knownS, show ¬ 1 ≤ op by omega], hL5.turn hJ6 hk6, rfl, rfl, rfl, rfl, rfl, trivial⟩
          · (repeat (first | refine pl_pure hT rfl rfl rfl ?_ | refine pl_nil ?_ | refine rn_seq ?_ | refine rn_plain ?_ | refine rn_block ?_ | refine rn_inBlock ?_ | refine rn_skip ?_ | refine rn_true rfl ?_ | refine rn_false rfl ?_ | refine rn_exit rfl ?_ | refine pl_not rfl rfl ?_ | refine pl_val _ rfl rfl (val_load1 hT rfl rfl rfl (Blk.cell (by assumption) (by rfl))) ?_ | refine pl_yes rfl rfl rfl rfl rfl (by first | (simp only [cmpP]; omega) | (simp [cmpP]; done) | (simp [cmpP]; omega)) ?_ | refine pl_no rfl rfl rfl rfl rfl rfl (by first | (simp only [cmpP]; omega) | (simp [cmpP]; done) | (simp [cmpP]; omega)) ?_))
            refine pl_val (.bool (!knownS op)) rfl rfl (val_int .i64 _ _ _ rfl rfl rfl (by simp only [intOp, knownS]; congr 2; rw [Bool.eq_iff_iff]; simp; omega) w5) ?_
            (repeat (first | refine pl_pure hT rfl rfl rfl ?_ | refine pl_nil ?_ | refine rn_seq ?_ | refine rn_plain ?_ | refine rn_block ?_ | refine rn_inBlock ?_ | refine rn_skip ?_ | refine rn_true rfl ?_ | refine rn_false rfl ?_ | refine rn_exit rfl ?_ | refine pl_not rfl rfl ?_))
            refine pl_op rfl rfl (opTo_call rfl rfl rfl rfl (by decide +kernel) ((bad_ret hL5.hj (!knownS op) 2).mono ?_))
            rintro v6 w6 ⟨rfl, hJ6, hk6⟩
            refine pl_nil ?_
            exact fin _ _ ⟨_, rfl, hL5.turn hJ6 hk6, rfl, rfl, rfl, rfl, rfl, trivial⟩
      · (repeat (first | refine pl_pure hT rfl rfl rfl ?_ | refine pl_nil ?_ | refine rn_seq ?_ | refine rn_plain ?_ | refine rn_block ?_ | refine rn_inBlock ?_ | refine rn_skip ?_ | refine rn_true rfl ?_ | refine rn_false rfl ?_ | refine rn_exit rfl ?_ | refine pl_not rfl rfl ?_ | refine pl_val _ rfl rfl (val_load1 hT rfl rfl rfl (Blk.cell (by assumption) (by rfl))) ?_ | refine pl_yes rfl rfl rfl rfl rfl (by first | (simp only [cmpP]; omega) | (simp [cmpP]; done) | (simp [cmpP]; omega)) ?_ | refine pl_no rfl rfl rfl rfl rfl rfl (by first | (simp only [cmpP]; omega) | (simp [cmpP]; done) | (simp [cmpP]; omega)) ?_))
        exact rn_end Try.func70 (.inr (.inl ⟨rfl, rfl⟩)) ⟨rfl, ⟨ni, ci, hJ2, hend (.inr hcz)⟩, hk2⟩
    · refine pl_no rfl rfl rfl rfl rfl rfl (by first | (simp only [cmpP]; omega) | (simp [cmpP]; done) | (simp [cmpP]; omega)) ?_
      (repeat (first | refine pl_pure hT rfl rfl rfl ?_ | refine pl_nil ?_ | refine rn_seq ?_ | refine rn_plain ?_ | refine rn_block ?_ | refine rn_inBlock ?_ | refine rn_skip ?_ | refine rn_true rfl ?_ | refine rn_false rfl ?_ | refine rn_exit rfl ?_ | refine pl_not rfl rfl ?_))
      exact rn_end Try.func70 (.inr (.inl ⟨rfl, rfl⟩)) ⟨rfl, ⟨ni, ci, hJ2, hend (.inl (by omega))⟩, hk2⟩
end E
end Go.Proofs.Ytpbdjpoohpocfab
