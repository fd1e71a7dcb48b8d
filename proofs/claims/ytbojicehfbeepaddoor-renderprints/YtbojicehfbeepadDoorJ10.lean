/- Several texts in one: RfC, RfE, FaR, PtC, RnP, Bld, WrM. -/
import Derived.Test.YtbojicehfbeepadDoorJ09
import Derived.Test.YtbojicehfbeepadDoorJ08
import Derived.Test.YtbojicehfbeepadDoorJ06
import Derived.Test.YtbojicehfbeepadDoorJ07
import Derived.Test.YtbojicehfbeepadDoorJ03
import Derived.Lib.Builder
import Derived.Lib.AppendStr
import Derived.Lib.UnsafeStr
import Derived.Laws.Externs
/- Contracts of the document's looking at statements, and of ProgramFault. -/
namespace Go.Proofs.YtbojicehfbeepadDoor
set_option maxRecDepth 20000
set_option maxHeartbeats 4000000
namespace E
open Go.Proofs

def x1 (op : Int) (e f : ET) : Bool := (needE op || zeroE e) && (needF op || zeroE f)
def x2 (op : Int) (lb lo : Nat) : Bool := (needB op || (lb : Int) == 0) && (needO op || (lo : Int) == 0)
theorem fits_x (op : Int) (e f : ET) (lb lo : Nat) : fitsS op e f lb lo = (x1 op e f && x2 op lb lo) := by
  unfold fitsS x1 x2
  cases needE op <;> cases zeroE e <;> cases needF op <;> cases zeroE f <;> cases needB op <;> cases ((lb : Int) == 0) <;> cases needO op <;> cases ((lo : Int) == 0) <;> rfl

/-- A statement in its box, and the looking beside it. -/
structure Lk (F : Nat → Prop) (w0 w : World) (j x nv capv : Nat) (av : Option Addr) (b : Value) (n : Nat) (c : Int) (sc : List Value) : Prop where
  hj : Blk w j (lkC (.slice av nv capv) b n c) tLk
  hx : Blk w x sc 40
  hk : Keep [j] w0 w

section
variable {F : Nat → Prop} {w0 w w' : World} {j x nv capv : Nat} {av : Option Addr} {b : Value} {n n' : Nat} {c c' : Int} {sc : List Value}
theorem Lk.turn (h : Lk F w0 w j x nv capv av b n c sc) (hj : Blk w' j (lkC (.slice av nv capv) b n' c') tLk) (hk : Keep [j] w w') : Lk F w0 w' j x nv capv av b n' c' sc :=
  ⟨hj, hk.blk h.hx (by simpa using h.hx.ne h.hj (by decide)), h.hk.tr hk⟩
theorem Lk.keep (h : Lk F w0 w j x nv capv av b n c sc) (hk : Keep [] w w') : Lk F w0 w' j x nv capv av b n c sc :=
  ⟨hk.blk h.hj (by simp), hk.blk h.hx (by simp), h.hk.tr (Keep.of0 hk)⟩
end

theorem lookList_ret {j nv capv : Nat} {av : Option Addr} {b : Value} : ∀ (s : Nat) (l : List ST), szSs l < s → szSs l ≤ 100000 → ∀ {F : Nat → Prop} {w : World} {xl : Value} (deep n : Nat) (c : Int), StmtsV F w xl l → In F w → ¬ F j → Blk w j (lkC (.slice av nv capv) b n c) tLk → (deep ≤ 13 ∨ (c ≠ 0 ∧ deep ≤ 14)) → n ≤ 151 → (c = 0 → n ≤ 150) →
    Ret Tryd.prog 31 [.pointer (some ⟨j, 0, none⟩), xl, .int .i64 (deep : Nat)] w fun r w' => r = .tuple #[] ∧ (∃ n' c', Blk w' j (lkC (.slice av nv capv) b n' c') tLk ∧ Tr (chkSs nv l deep) n c n' c') ∧ Keep [j] w w' := by
  intro s
  induction s with
  | zero => intro l hl; omega
  | succ s ih =>
    intro l hl hl3 F w xl deep n c h hF hFj hJ hdeep hn hn0
    obtain ⟨a, cap, rfl⟩ := h.form
    have hlen := szSs_len l
    refine ret_of 123 Tryd.func31 rfl rfl (by simp) ?_
    refine au ?_
    refine rn_ind (fun m σ w' => ∃ (i ni : Nat) (ci : Int), i ≤ l.length ∧ m = l.length - i ∧ σ = [(0, .pointer (some ⟨j, 0, none⟩)), (1, .slice a l.length cap), (2, .int .i64 (deep : Nat)), (6, .int .i64 (i : Nat))] ∧ Blk w' j (lkC (.slice av nv capv) b ni ci) tLk ∧ Keep [j] w w' ∧ ni ≤ 151 ∧ (ci = 0 → ni ≤ 150) ∧
      ((c = 0 ∧ ci = 0 ∧ chkSs nv (l.take i) deep n = .ok ni) ∨ (ci ≠ 0 ∧ ((c = 0 ∧ chkSs nv l deep n = .error ci) ∨ (c ≠ 0 ∧ ni = n ∧ ci = c))))) l.length _ ?_ ⟨0, n, c, by omega, by omega, rfl, hJ, Keep.refl _ _, hn, hn0, ?_⟩ ?_
    · exact ⟨rfl, rfl, rfl, rfl, trivial⟩
    · by_cases hc : c = 0
      · exact .inl ⟨hc, hc, by simp [chkSs]⟩
      · exact .inr ⟨hc, .inr ⟨hc, rfl, rfl⟩⟩
    rintro m σ w2 ih2 ⟨i, ni, ci, hi, rfl, rfl, hJ2, hk2, hni, hni0, hor⟩
    have hJ2' := hJ2
    unfold lkC at hJ2'
    have hend : (i = l.length ∨ ci ≠ 0) → Tr (chkSs nv l deep) n c ni ci := by
      intro hx
      rcases hor with ⟨hc, hci, hch⟩ | ⟨hci, hr⟩
      · have hil : i = l.length := by
          rcases hx with hx | hx
          · exact hx
          · exact absurd hci hx
        rw [hil, List.take_length] at hch
        exact ⟨fun h => absurd hc h, fun _ => ⟨fun q hq => (by rw [hch] at hq; injection hq with hq; exact ⟨hq, hci⟩), fun e he => (by rw [hch] at he; cases he)⟩, hni, hni0⟩
      · rcases hr with ⟨hc, hch⟩ | ⟨hc, h1, h2⟩
        · exact ⟨fun h => absurd hc h, fun _ => ⟨fun q hq => (by rw [hch] at hq; cases hq), fun e he => (by rw [hch] at he; injection he)⟩, hni, hni0⟩
        · exact ⟨fun _ => ⟨h1, h2⟩, fun h => absurd h hc, hni, hni0⟩
    refine au ?_
    by_cases hlt : i < l.length
    · by_cases hcz : ci = 0
      · subst hcz
        obtain ⟨hc0, hch⟩ : c = 0 ∧ chkSs nv (l.take i) deep n = .ok ni := by
          rcases hor with ⟨hc, _, hch⟩ | ⟨hci, _⟩
          · exact ⟨hc, hch⟩
          · exact absurd rfl hci
        have hni150 := hni0 rfl
        have hd13 : deep ≤ 13 := hdeep.elim id fun h => absurd hc0 h.1
        clear hend hor hdeep hn0
        have hget : l[i]? = some l[i] := List.getElem?_eq_getElem hlt
        have hsz := szSs_at hget
        obtain ⟨op, v, e, f, lb, lo, hs⟩ : ∃ op v e f lb lo, l[i] = ST.mk op v e f lb lo := by cases l[i]; exact ⟨_, _, _, _, _, _, rfl⟩
        rw [hs] at hget hsz
        simp only [szS] at hsz
        have hat := chkSs_at hget hch
        obtain ⟨bb, q, cap', ce, cf, bv, ov, hvv, hst⟩ := (h.keep hk2 (stays_but hF hFj)).stmtAt hget
        cases hvv
        have hF2 := hF.keep hk2
        obtain ⟨e0, e1, e2, e3, rfl⟩ := list4 hst.he.length
        obtain ⟨f0, f1, f2, f3, rfl⟩ := list4 hst.hf.length
        obtain ⟨ab, capb, rfl⟩ := hst.hb.form
        obtain ⟨ao, capo, rfl⟩ := hst.ho.form
        refine aub ?_
        refine pl_val _ rfl rfl (val_index i hT rfl rfl rfl rfl rfl hlt w2) ?_
        refine pl_val _ rfl rfl (val_load [.int .i64 op, .int .i64 v, e0, e1, e2, e3, f0, f1, f2, f3, .slice ab lb.length capb, .slice ao lo.length capo] hT rfl rfl rfl hst.whole) ?_
        refine pl_op rfl rfl (opTo_allocN _ rfl zero_stmt ?_)
        intro w3 x hx3 hs3 hk3 hX3
        refine pl_op rfl rfl (opTo_storeN _ rfl rfl rfl rfl (by kernel_rfl) hX3 (by simp [stmtZ]) hst.stmt.one ?_)
        intro w4 hs4 hk4 hX4
        rw [splice_whole (by rfl)] at hX4
        have hk24 : Keep [] w2 w4 := hk3.trB hk4 (by omega)
        have hL4 : Lk F w2 w4 j x nv capv av b ni 0 [.int .i64 op, .int .i64 v, e0, e1, e2, e3, f0, f1, f2, f3, .slice ab lb.length capb, .slice ao lo.length capo] := ⟨hk24.blk hJ2 (by simp), hX4, Keep.of0 hk24⟩
        clear hk3 hk4 hX3 hX4 hk24
        refine au ?_
        refine pl_op rfl rfl (opTo_call rfl rfl rfl rfl (by decide +kernel) ((head_ret hL4.hj (deep : Nat) (by omega)).mono ?_))
        rintro v5 w5 ⟨rfl, hJ5, hk5⟩
        have hL5 := hL4.turn hJ5 hk5
        have hst2 := stays_but hF2 hFj
        refine pl_nil ?_
        refine rn_seq ?_
        refine rn_with (fun σ' w' => ∃ c6, c6 = badC (!knownS op) (badC (decide (ni + 1 > 150)) (badC (decide ((deep : Int) > 12)) 0 4) 3) 2 ∧ Lk F w2 w' j x nv capv av b (ni + 1) c6 [.int .i64 op, .int .i64 v, e0, e1, e2, e3, f0, f1, f2, f3, .slice ab lb.length capb, .slice ao lo.length capo] ∧ Sub [(0, .pointer (some ⟨j, 0, none⟩)), (1, .slice (some ⟨bb, q, none⟩) l.length cap), (2, .int .i64 (deep : Nat)), (6, .int .i64 (i : Nat)), (7, .pointer (some ⟨x, 0, none⟩))] σ') ?_ ?_
        · rintro σ' w6 ⟨c6, hc6, hL6, hsub⟩
          refine rn_sub hsub ?_
          refine rn_seq ?_
          refine rn_with (fun σ' w' => ∃ c7, c7 = badC (!x1 op e f) c6 5 ∧ Lk F w2 w' j x nv capv av b (ni + 1) c7 [.int .i64 op, .int .i64 v, e0, e1, e2, e3, f0, f1, f2, f3, .slice ab lb.length capb, .slice ao lo.length capo] ∧ Sub [(0, .pointer (some ⟨j, 0, none⟩)), (1, .slice (some ⟨bb, q, none⟩) l.length cap), (2, .int .i64 (deep : Nat)), (6, .int .i64 (i : Nat)), (7, .pointer (some ⟨x, 0, none⟩))] σ') ?_ ?_
          · rintro σ' w7 ⟨c7, hc7, hL7, hsub⟩
            refine rn_sub hsub ?_
            refine rn_seq ?_
            refine rn_with (fun σ' w' => ∃ c8, c8 = badC (!x2 op lb.length lo.length) c7 5 ∧ Lk F w2 w' j x nv capv av b (ni + 1) c8 [.int .i64 op, .int .i64 v, e0, e1, e2, e3, f0, f1, f2, f3, .slice ab lb.length capb, .slice ao lo.length capo] ∧ Sub [(0, .pointer (some ⟨j, 0, none⟩)), (1, .slice (some ⟨bb, q, none⟩) l.length cap), (2, .int .i64 (deep : Nat)), (6, .int .i64 (i : Nat)), (7, .pointer (some ⟨x, 0, none⟩))] σ') ?_ ?_
            · rintro σ' w8 ⟨c8, hc8, hL8, hsub⟩
              refine rn_sub hsub ?_
              refine au ?_
              refine rn_draw (fun w' => Keep [] w8 w') [6] hMix ?_
              have hS : Keep [] w8 w8.drew := (Keep.refl _ _).drew
              generalize w8.drew = w9 at *
              refine tk 0 ?_
              refine tk 1 ?_
              refine dr_val 2 _ rfl (by decide +kernel) rfl rfl (fun w9 hS9 => val_load1 hT rfl rfl rfl ((hS9.blk hL8.hx (by simp)).cell rfl)) hS ?_
              refine tk 3 ?_
              refine dr_val 4 _ rfl (by decide +kernel) rfl rfl (fun w9 hS9 => val_load1 hT rfl rfl rfl ((hS9.blk hL8.hx (by simp)).cell rfl)) hS ?_
              have hN := needed_ret op 118 w9
              rw [(needC_all op).2.2.1] at hN
              refine dr_op 5 rfl (by decide +kernel) rfl rfl (opTo_call rfl rfl rfl rfl (by decide +kernel) (hN.mono ?_))
              rintro v10 w10 ⟨rfl, rfl⟩
              refine ⟨fun _ => hS, ?_⟩
              refine dr_op 6 rfl (by decide +kernel) rfl rfl (opTo_call rfl rfl rfl rfl (by decide +kernel) ((variable_ret (hS.blk hL8.hj (by simp)) v (needV op)).mono ?_))
              rintro v11 w11 ⟨rfl, hJ11, hk11⟩
              refine ⟨fun h => absurd h (by simp), ?_⟩
              refine dr_done (by decide +kernel) ?_
              have hck : varC nv v (needV op) c8 = lookK nv ni (deep : Nat) (knownS op) (fitsS op e f lb.length lo.length) (needV op) v := by
                rw [hc8, hc7, hc6, fits_x]
                exact look_chain nv ni (deep : Nat) (knownS op) (x1 op e f) (x2 op lb.length lo.length) (needV op) v _ _ _ rfl (by cases x1 op e f <;> cases x2 op lb.length lo.length <;> rfl)
              have hL11 := (hL8.keep hS).turn hJ11 hk11
              generalize varC nv v (needV op) c8 = cc at *
              clear hc6 hc7 hc8 hL4 hL5 hL6 hL7 hL8 hS hJ5 hk5 hJ11 hk11 hN hJ2'
              have hcc0 : cc = 0 → ni + 1 ≤ 150 ∧ deep ≤ 12 := fun h => by have := look_room (hck.symm.trans h); omega
              -- E
              refine rn_seq ?_
              refine rn_with (fun σ' w' => ∃ n1 c1, Tr (fun k => if needE op then chkE nv e (deep + 1) k else .ok k) (ni + 1) cc n1 c1 ∧ Lk F w2 w' j x nv capv av b n1 c1 [.int .i64 op, .int .i64 v, e0, e1, e2, e3, f0, f1, f2, f3, .slice ab lb.length capb, .slice ao lo.length capo] ∧ Sub [(0, .pointer (some ⟨j, 0, none⟩)), (1, .slice (some ⟨bb, q, none⟩) l.length cap), (2, .int .i64 (deep : Nat)), (6, .int .i64 (i : Nat)), (7, .pointer (some ⟨x, 0, none⟩))] σ') ?_ ?_
              · rintro σ' w12 ⟨n1, c1, hT1, hL12, hsub⟩
                refine rn_sub hsub ?_
                refine rn_seq ?_
                refine rn_with (fun σ' w' => ∃ n2 c2, Tr (fun k => if needF op then chkE nv f (deep + 1) k else .ok k) n1 c1 n2 c2 ∧ Lk F w2 w' j x nv capv av b n2 c2 [.int .i64 op, .int .i64 v, e0, e1, e2, e3, f0, f1, f2, f3, .slice ab lb.length capb, .slice ao lo.length capo] ∧ Sub [(0, .pointer (some ⟨j, 0, none⟩)), (1, .slice (some ⟨bb, q, none⟩) l.length cap), (2, .int .i64 (deep : Nat)), (6, .int .i64 (i : Nat)), (7, .pointer (some ⟨x, 0, none⟩))] σ') ?_ ?_
                · rintro σ' w13 ⟨n2, c2, hT2, hL13, hsub⟩
                  refine rn_sub hsub ?_
                  have hd2 : (deep + 1 ≤ 13 ∨ (c2 ≠ 0 ∧ deep + 1 ≤ 14)) := by
                    by_cases hz : cc = 0
                    · exact .inl (by have := hcc0 hz; omega)
                    · have h1 := hT1.1 hz
                      have h2 := hT2.1 (by rw [h1.2]; exact hz)
                      exact .inr ⟨by rw [h2.2, h1.2]; exact hz, by omega⟩
                  refine au ?_
                  refine pl_val _ rfl rfl (val_load1 hT rfl rfl rfl (hL13.hx.cell rfl)) ?_
                  refine au ?_
                  refine pl_num (((deep + 1 : Nat) : Int)) rfl rfl rfl rfl rfl (by simp only [ariP]; omega) ?_
                  refine pl_op rfl rfl (opTo_call rfl rfl rfl rfl (by decide +kernel) ((ih lb (by omega) (by omega) (deep + 1) n2 c2 (hst.hb.keep hL13.hk hst2) (hF2.keep hL13.hk) hFj hL13.hj hd2 hT2.2.2.1 hT2.2.2.2).mono ?_))
                  rintro v14 w14 ⟨rfl, ⟨n3, c3, hJ14, hT3⟩, hk14⟩
                  have hL14 := hL13.turn hJ14 hk14
                  have hd3 : (deep + 1 ≤ 13 ∨ (c3 ≠ 0 ∧ deep + 1 ≤ 14)) := by
                    rcases hd2 with h | ⟨h, h'⟩
                    · exact .inl h
                    · exact .inr ⟨by rw [(hT3.1 h).2]; exact h, h'⟩
                  refine au ?_
                  refine pl_val _ rfl rfl (val_load1 hT rfl rfl rfl (hL14.hx.cell rfl)) ?_
                  refine au ?_
                  refine pl_num (((deep + 1 : Nat) : Int)) rfl rfl rfl rfl rfl (by simp only [ariP]; omega) ?_
                  refine pl_op rfl rfl (opTo_call rfl rfl rfl rfl (by decide +kernel) ((ih lo (by omega) (by omega) (deep + 1) n3 c3 (hst.ho.keep hL14.hk hst2) (hF2.keep hL14.hk) hFj hL14.hj hd3 hT3.2.2.1 hT3.2.2.2).mono ?_))
                  rintro v15 w15 ⟨rfl, ⟨n4, c4, hJ15, hT4⟩, hk15⟩
                  have hL15 := hL14.turn hJ15 hk15
                  refine au ?_
                  refine pl_num (((i + 1 : Nat) : Int)) rfl rfl rfl rfl rfl (by simp only [ariP]; omega) ?_
                  refine au ?_
                  have hTT := Tr.seq hT1 (coded_ite (codedE nv e _ _) (coded_ok _)) (Tr.seq hT2 (coded_ite (codedE nv f _ _) (coded_ok _)) (Tr.seq hT3 (codedSs nv lb _ _) hT4))
                  have hkw15 : Keep [j] w w15 := hk2.tr hL15.hk
                  refine rn_sub ?_ (ih2 (l.length - (i + 1)) [(0, .pointer (some ⟨j, 0, none⟩)), (1, .slice (some ⟨bb, q, none⟩) l.length cap), (2, .int .i64 (deep : Nat)), (6, .int .i64 ((i + 1 : Nat) : Int))] w15 (by omega)
                    ⟨i + 1, n4, c4, by omega, rfl, rfl, hL15.hj, hkw15, hTT.2.2.1, hTT.2.2.2, ?_⟩)
                  · exact ⟨rfl, rfl, rfl, rfl, trivial⟩
                  · by_cases hz : cc = 0
                    · have hS : chkS nv (.mk op v e f lb lo) deep ni = _ := chkS_look nv deep ni op v e f lb lo
                      rw [← hck, if_neg (by simp [hz])] at hS
                      have ht := hTT.2.1 hz
                      cases hxs : chkS nv (.mk op v e f lb lo) deep ni with
                      | ok q' =>
                        obtain ⟨rfl, rfl⟩ := ht.1 q' (by rw [← hxs, hS])
                        exact .inl ⟨hc0, rfl, by rw [hat.1, hxs]⟩
                      | error er =>
                        have := ht.2 er (by rw [← hxs, hS])
                        subst this
                        exact .inr ⟨codedS nv _ _ _ _ hxs, .inl ⟨hc0, hat.2 _ hxs⟩⟩
                    · have ht := hTT.1 hz
                      have hxs : chkS nv (.mk op v e f lb lo) deep ni = .error cc := by rw [chkS_look, ← hck, if_pos hz]
                      rw [ht.2]
                      exact .inr ⟨hz, .inl ⟨hc0, hat.2 _ hxs⟩⟩
                · intro fin
                  refine au ?_
                  refine pl_val _ rfl rfl (val_load1 hT rfl rfl rfl (hL12.hx.cell rfl)) ?_
                  have hN := needed_ret op 102 w12
                  rw [(needC_all op).2.1] at hN
                  refine pl_op rfl rfl (opTo_call rfl rfl rfl rfl (by decide +kernel) (hN.mono ?_))
                  rintro v13 w13 ⟨rfl, rfl⟩
                  cases hbf : needF op with
                  | false =>
                    refine pl_nil ?_
                    refine rn_false rfl ?_
                    refine rn_skip ?_
                    exact fin _ _ ⟨n1, c1, by simp only [hbf]; exact Tr.id hT1.2.2.1 hT1.2.2.2, hL12, rfl, rfl, rfl, rfl, rfl, trivial⟩
                  | true =>
                    refine pl_nil ?_
                    refine rn_true rfl ?_
                    refine rn_plain ?_
                    refine au ?_
                    refine pl_val _ rfl rfl (val_load [f0, f1, f2, f3] hT rfl rfl rfl (hL12.hx.range (by rfl))) ?_
                    refine au ?_
                    refine pl_num (((deep + 1 : Nat) : Int)) rfl rfl rfl rfl rfl (by simp only [ariP]; omega) ?_
                    refine pl_op rfl rfl (opTo_call rfl rfl rfl rfl (by decide +kernel) ((lookExpr_ret _ f (Nat.le_refl _) (by omega) (deep + 1) n1 c1 (hst.hf.keep hL12.hk hst2) (hF2.keep hL12.hk) hFj hL12.hj (by omega) hT1.2.2.1 hT1.2.2.2).mono ?_))
                    rintro v14 w14 ⟨rfl, ⟨n2, c2, hJ14, hT2⟩, hk14⟩
                    refine pl_nil ?_
                    exact fin _ _ ⟨n2, c2, by simp only [hbf]; exact hT2, hL12.turn hJ14 hk14, rfl, rfl, rfl, rfl, rfl, trivial⟩
              · intro fin
                refine au ?_
                refine pl_val _ rfl rfl (val_load1 hT rfl rfl rfl (hL11.hx.cell rfl)) ?_
                have hN := needed_ret op 101 w11
                rw [(needC_all op).1] at hN
                refine pl_op rfl rfl (opTo_call rfl rfl rfl rfl (by decide +kernel) (hN.mono ?_))
                rintro v13 w13 ⟨rfl, rfl⟩
                cases hbe : needE op with
                | false =>
                  refine pl_nil ?_
                  refine rn_false rfl ?_
                  refine rn_skip ?_
                  exact fin _ _ ⟨ni + 1, cc, by simp only [hbe]; exact Tr.id (by omega) (fun h => (hcc0 h).1), hL11, rfl, rfl, rfl, rfl, rfl, trivial⟩
                | true =>
                  refine pl_nil ?_
                  refine rn_true rfl ?_
                  refine rn_plain ?_
                  refine au ?_
                  refine pl_val _ rfl rfl (val_load [e0, e1, e2, e3] hT rfl rfl rfl (hL11.hx.range (by rfl))) ?_
                  refine au ?_
                  refine pl_num (((deep + 1 : Nat) : Int)) rfl rfl rfl rfl rfl (by simp only [ariP]; omega) ?_
                  refine pl_op rfl rfl (opTo_call rfl rfl rfl rfl (by decide +kernel) ((lookExpr_ret _ e (Nat.le_refl _) (by omega) (deep + 1) (ni + 1) cc (hst.he.keep hL11.hk hst2) (hF2.keep hL11.hk) hFj hL11.hj (by omega) (by omega) (fun h => (hcc0 h).1)).mono ?_))
                  rintro v14 w14 ⟨rfl, ⟨n2, c2, hJ14, hT2⟩, hk14⟩
                  refine pl_nil ?_
                  exact fin _ _ ⟨n2, c2, by simp only [hbe]; exact hT2, hL11.turn hJ14 hk14, rfl, rfl, rfl, rfl, rfl, trivial⟩
            · intro fin
              refine au ?_
              refine pl_val _ rfl rfl (val_load1 hT rfl rfl rfl (hL7.hx.cell rfl)) ?_
              have hN := needed_ret op 98 w7
              rw [(needC_all op).2.2.2.1] at hN
              refine pl_op rfl rfl (opTo_call rfl rfl rfl rfl (by decide +kernel) (hN.mono ?_))
              rintro v8 w8 ⟨rfl, rfl⟩
              have hX8 := hL7.hx
              have hN2 := needed_ret op 111 w8
              rw [(needC_all op).2.2.2.2] at hN2
              have stop : ∀ (is : Bool), is = !x2 op lb.length lo.length → ∀ (σ : Env), True → Ret Tryd.prog 52 [.pointer (some ⟨j, 0, none⟩), .bool is, .int .i64 5] w8 fun r w' => r = .tuple #[] ∧ Lk F w2 w' j x nv capv av b (ni + 1) (badC (!x2 op lb.length lo.length) c7 5) [.int .i64 op, .int .i64 v, e0, e1, e2, e3, f0, f1, f2, f3, .slice ab lb.length capb, .slice ao lo.length capo] := fun is his σ _ => by
                subst his
                exact (bad_ret hL7.hj _ 5).mono fun r w' ⟨h1, h2, h3⟩ => ⟨h1, hL7.turn h2 h3⟩
              cases hbb : needB op with
              | true =>
                refine aub ?_
                refine pl_op rfl rfl (opTo_call rfl rfl rfl rfl (by decide +kernel) (hN2.mono ?_))
                rintro v9 w9 ⟨rfl, rfl⟩
                cases hbo : needO op with
                | true =>
                  refine au ?_
                  refine pl_op rfl rfl (opTo_call rfl rfl rfl rfl (by decide +kernel) ((stop false (by simp [x2, hbb, hbo]) [] trivial).mono ?_))
                  rintro v10 w10 ⟨rfl, hL10⟩
                  refine pl_nil ?_
                  exact fin _ _ ⟨_, rfl, hL10, rfl, rfl, rfl, rfl, rfl, trivial⟩
                | false =>
                  refine aub ?_
                  refine pl_val (.bool (!x2 op lb.length lo.length)) rfl rfl (val_int .i64 _ _ _ rfl rfl rfl (by simp only [intOp, x2, hbb, hbo]; congr 2; rw [Bool.eq_iff_iff]; simp [List.length_pos_iff]) _) ?_
                  refine au ?_
                  refine pl_op rfl rfl (opTo_call rfl rfl rfl rfl (by decide +kernel) ((stop _ rfl [] trivial).mono ?_))
                  rintro v10 w10 ⟨rfl, hL10⟩
                  refine pl_nil ?_
                  exact fin _ _ ⟨_, rfl, hL10, rfl, rfl, rfl, rfl, rfl, trivial⟩
              | false =>
                by_cases hlb : lb.length = 0
                · refine aub ?_
                  refine pl_op rfl rfl (opTo_call rfl rfl rfl rfl (by decide +kernel) (hN2.mono ?_))
                  rintro v9 w9 ⟨rfl, rfl⟩
                  cases hbo : needO op with
                  | true =>
                    refine au ?_
                    refine pl_op rfl rfl (opTo_call rfl rfl rfl rfl (by decide +kernel) ((stop false (by simp [x2, hbb, hbo, hlb]) [] trivial).mono ?_))
                    rintro v10 w10 ⟨rfl, hL10⟩
                    refine pl_nil ?_
                    exact fin _ _ ⟨_, rfl, hL10, rfl, rfl, rfl, rfl, rfl, trivial⟩
                  | false =>
                    refine aub ?_
                    refine pl_val (.bool (!x2 op lb.length lo.length)) rfl rfl (val_int .i64 _ _ _ rfl rfl rfl (by simp only [intOp, x2, hbb, hbo, hlb]; congr 2; rw [Bool.eq_iff_iff]; simp [List.length_pos_iff]) _) ?_
                    refine au ?_
                    refine pl_op rfl rfl (opTo_call rfl rfl rfl rfl (by decide +kernel) ((stop _ rfl [] trivial).mono ?_))
                    rintro v10 w10 ⟨rfl, hL10⟩
                    refine pl_nil ?_
                    exact fin _ _ ⟨_, rfl, hL10, rfl, rfl, rfl, rfl, rfl, trivial⟩
                · refine aub ?_
                  refine pl_op rfl rfl (opTo_call rfl rfl rfl rfl (by decide +kernel) ((stop true (by simp [x2, hbb]; exact .inl (fun h => by subst h; simp at hlb)) [] trivial).mono ?_))
                  rintro v10 w10 ⟨rfl, hL10⟩
                  refine pl_nil ?_
                  exact fin _ _ ⟨_, rfl, hL10, rfl, rfl, rfl, rfl, rfl, trivial⟩
          · intro fin
            refine au ?_
            refine pl_val _ rfl rfl (val_load1 hT rfl rfl rfl (hL6.hx.cell rfl)) ?_
            have hN := needed_ret op 101 w6
            rw [(needC_all op).1] at hN
            refine pl_op rfl rfl (opTo_call rfl rfl rfl rfl (by decide +kernel) (hN.mono ?_))
            rintro v8 w8 ⟨rfl, rfl⟩
            have stop : ∀ (w9 : World) (is : Bool), is = !x1 op e f → Keep [] w8 w9 → Ret Tryd.prog 52 [.pointer (some ⟨j, 0, none⟩), .bool is, .int .i64 5] w9 fun r w' => r = .tuple #[] ∧ Lk F w2 w' j x nv capv av b (ni + 1) (badC (!x1 op e f) c6 5) [.int .i64 op, .int .i64 v, e0, e1, e2, e3, f0, f1, f2, f3, .slice ab lb.length capb, .slice ao lo.length capo] := fun w9 is his hk9 => by
              subst his
              exact (bad_ret (hL6.keep hk9).hj _ 5).mono fun r w' ⟨h1, h2, h3⟩ => ⟨h1, (hL6.keep hk9).turn h2 h3⟩
            have hX8 := hL6.hx
            cases hbe : needE op with
            | true =>
              refine aub ?_
              have hN2 := needed_ret op 102 w8
              rw [(needC_all op).2.1] at hN2
              refine pl_op rfl rfl (opTo_call rfl rfl rfl rfl (by decide +kernel) (hN2.mono ?_))
              rintro v9 w9 ⟨rfl, rfl⟩
              cases hbf : needF op with
              | true =>
                refine au ?_
                refine pl_op rfl rfl (opTo_call rfl rfl rfl rfl (by decide +kernel) ((stop _ false (by simp [x1, hbe, hbf]) (Keep.refl _ _)).mono ?_))
                rintro v10 w10 ⟨rfl, hL10⟩
                refine pl_nil ?_
                exact fin _ _ ⟨_, rfl, hL10, rfl, rfl, rfl, rfl, rfl, trivial⟩
              | false =>
                refine au ?_
                refine pl_val _ rfl rfl (val_load [f0, f1, f2, f3] hT rfl rfl rfl (hX8.range (by rfl))) ?_
                refine pl_op rfl rfl (opTo_call rfl rfl rfl rfl (by decide +kernel) ((zeroExpr_ret (hst.hf.keep hL6.hk hst2)).mono ?_))
                rintro v10 w10 ⟨rfl, hk10⟩
                refine au ?_
                refine pl_op rfl rfl (opTo_call rfl rfl rfl rfl (by decide +kernel) ((stop _ _ (by simp [x1, hbe, hbf]) hk10).mono ?_))
                rintro v11 w11 ⟨rfl, hL11⟩
                refine pl_nil ?_
                exact fin _ _ ⟨_, rfl, hL11, rfl, rfl, rfl, rfl, rfl, trivial⟩
            | false =>
              refine au ?_
              refine pl_val _ rfl rfl (val_load [e0, e1, e2, e3] hT rfl rfl rfl (hX8.range (by rfl))) ?_
              refine pl_op rfl rfl (opTo_call rfl rfl rfl rfl (by decide +kernel) ((zeroExpr_ret (hst.he.keep hL6.hk hst2)).mono ?_))
              rintro v9 w9 ⟨rfl, hk9⟩
              cases hz1 : zeroE e with
              | false =>
                refine au ?_
                refine pl_op rfl rfl (opTo_call rfl rfl rfl rfl (by decide +kernel) ((stop _ true (by simp [x1, hbe, hz1]) hk9).mono ?_))
                rintro v11 w11 ⟨rfl, hL11⟩
                refine pl_nil ?_
                exact fin _ _ ⟨_, rfl, hL11, rfl, rfl, rfl, rfl, rfl, trivial⟩
              | true =>
                have hX9 := hk9.blk hX8 (by simp)
                refine aub ?_
                have hN2 := needed_ret op 102 w9
                rw [(needC_all op).2.1] at hN2
                refine pl_op rfl rfl (opTo_call rfl rfl rfl rfl (by decide +kernel) (hN2.mono ?_))
                rintro v10 w10 ⟨rfl, rfl⟩
                cases hbf : needF op with
                | true =>
                  refine au ?_
                  refine pl_op rfl rfl (opTo_call rfl rfl rfl rfl (by decide +kernel) ((stop _ false (by simp [x1, hbe, hbf, hz1]) hk9).mono ?_))
                  rintro v11 w11 ⟨rfl, hL11⟩
                  refine pl_nil ?_
                  exact fin _ _ ⟨_, rfl, hL11, rfl, rfl, rfl, rfl, rfl, trivial⟩
                | false =>
                  refine au ?_
                  refine pl_val _ rfl rfl (val_load [f0, f1, f2, f3] hT rfl rfl rfl (hX9.range (by rfl))) ?_
                  refine pl_op rfl rfl (opTo_call rfl rfl rfl rfl (by decide +kernel) ((zeroExpr_ret ((hst.hf.keep hL6.hk hst2).keep hk9 (hF2.keep hL6.hk).stays)).mono ?_))
                  rintro v11 w11 ⟨rfl, hk11⟩
                  refine au ?_
                  refine pl_op rfl rfl (opTo_call rfl rfl rfl rfl (by decide +kernel) ((stop _ _ (by simp [x1, hbe, hbf, hz1]) (hk9.tr hk11)).mono ?_))
                  rintro v12 w12 ⟨rfl, hL12⟩
                  refine pl_nil ?_
                  exact fin _ _ ⟨_, rfl, hL12, rfl, rfl, rfl, rfl, rfl, trivial⟩
        · intro fin
          have hX5 := hL5.hx
          by_cases h1 : op < 1
          · refine aub ?_
            refine pl_op rfl rfl (opTo_call rfl rfl rfl rfl (by decide +kernel) ((bad_ret hL5.hj true 2).mono ?_))
            rintro v6 w6 ⟨rfl, hJ6, hk6⟩
            refine pl_nil ?_
            exact fin _ _ ⟨_, by simp [knownS, show ¬ 1 ≤ op by omega], hL5.turn hJ6 hk6, rfl, rfl, rfl, rfl, rfl, trivial⟩
          · refine aub ?_
            refine pl_val (.bool (!knownS op)) rfl rfl (val_int .i64 _ _ _ rfl rfl rfl (by simp only [intOp, knownS]; congr 2; rw [Bool.eq_iff_iff]; simp; omega) w5) ?_
            refine au ?_
            refine pl_op rfl rfl (opTo_call rfl rfl rfl rfl (by decide +kernel) ((bad_ret hL5.hj (!knownS op) 2).mono ?_))
            rintro v6 w6 ⟨rfl, hJ6, hk6⟩
            refine pl_nil ?_
            exact fin _ _ ⟨_, rfl, hL5.turn hJ6 hk6, rfl, rfl, rfl, rfl, rfl, trivial⟩
      · refine aub ?_
        exact rn_end Tryd.func31 (.inr (.inl ⟨rfl, rfl⟩)) ⟨rfl, ⟨ni, ci, hJ2, hend (.inr hcz)⟩, hk2⟩
    · refine nay ?_
      refine au ?_
      exact rn_end Tryd.func31 (.inr (.inl ⟨rfl, rfl⟩)) ⟨rfl, ⟨ni, ci, hJ2, hend (.inl (by omega))⟩, hk2⟩
end E
end Go.Proofs.YtbojicehfbeepadDoor

/- Contracts of the document's ProgramFault and Same. -/
namespace Go.Proofs.YtbojicehfbeepadDoor
set_option maxRecDepth 20000
set_option maxHeartbeats 4000000
namespace E
open Go.Proofs

theorem built_looking (a b : Option Addr) (m c m' c' : Nat) : Tryd.prog.built tLk [(0, .agg #[.slice a m c, .slice b m' c'])] = some [Value.slice a m c, .slice b m' c', .int .i64 0, .int .i64 0].toArray := by kernel_rfl

theorem refFault_ret {F : Nat → Prop} {w : World} {x : Value} {vs : List VarT} {body : List ST} (h : ProgV F w x vs body) (hF : In F w) (hnm : ∀ y ∈ vs, y.1.size ≤ 100000) (hsz : szSs body ≤ 100000) :
    Ret Tryd.prog 16 [x] w fun r w' => r = .int .i64 (progFault vs body) ∧ Keep [] w w' := by
  obtain ⟨vv, bv, rfl, hv, hb⟩ := h
  obtain ⟨av, capv, rfl⟩ := hv.form
  obtain ⟨ab, capb, rfl⟩ := hb.form
  refine ret_of 72 Tryd.func16 rfl rfl (by simp) ?_
  refine au ?_
  refine pl_op rfl rfl (opTo_boxN [.slice av vs.length capv, .slice ab body.length capb] rfl rfl rfl ?_)
  intro w1 p hp hs1 hk1 hB1
  refine au ?_
  refine pl_val _ rfl rfl (val_load1 hT rfl rfl rfl (hB1.cell rfl)) ?_
  refine au ?_
  unfold progFault
  by_cases h8 : vs.length > 8
  · rw [if_pos h8]
    refine ye ?_
    refine au ?_
    exact rn_ret Tryd.func16 (.inl ⟨_, rfl, rfl⟩) ⟨rfl, hk1⟩
  rw [if_neg h8]
  refine nay ?_
  refine au ?_
  refine rn_ind (fun m σ w' => ∃ i : Nat, i ≤ vs.length ∧ m = vs.length - i ∧ σ = [(1, .pointer (some ⟨p, 0, none⟩)), (3, .int .i64 (sumV (vs.take i))), (4, .int .i64 (i : Nat))] ∧
    chkV [] 0 vs = chkV ((vs.take i).map (·.1)) (sumV (vs.take i)) (vs.drop i) ∧ 0 ≤ sumV (vs.take i) ∧ sumV (vs.take i) ≤ 48 ∧ Blk w' p [.slice av vs.length capv, .slice ab body.length capb] 25 ∧ Keep [] w w') vs.length _ ?_ ⟨0, by omega, by omega, rfl, by simp [sumV], by simp [sumV], by simp [sumV], hB1, hk1⟩ ?_
  · exact ⟨rfl, rfl, rfl, trivial⟩
  rintro m σ w2 ih ⟨i, hi, rfl, rfl, hch, hs0, hs48, hB2, hk2⟩
  refine au ?_
  refine pl_val _ rfl rfl (val_load1 hT rfl rfl rfl (hB2.cell rfl)) ?_
  refine au ?_
  by_cases hlt : i < vs.length
  · refine ye ?_
    refine au ?_
    refine pl_val _ rfl rfl (val_load1 hT rfl rfl rfl (hB2.cell rfl)) ?_
    refine au ?_
    have hget : vs[i]? = some vs[i] := List.getElem?_eq_getElem hlt
    have hnmi := hnm vs[i] (List.getElem_mem _)
    obtain ⟨nm, sz, hnz⟩ : ∃ nm sz, vs[i] = (nm, sz) := ⟨_, _, rfl⟩
    rw [hnz] at hget hnmi
    replace hnmi : nm.size ≤ 100000 := hnmi
    rw [chkV_at hget] at hch
    have hsu : sumV (vs.take (i + 1)) = sumV (vs.take i) + sz := sumV_take_succ hget
    replace hch : chkV [] 0 vs = if nameOk nm = false then 8 else if (vs.take i).any (sameName (nm, sz)) = true then 9 else if sz < 1 ∨ sz > 48 ∨ sumV (vs.take i) + sz > 48 then 1 else chkV ((vs.take (i + 1)).map (·.1)) (sumV (vs.take (i + 1))) (vs.drop (i + 1)) := hch
    obtain ⟨bb, q, cap', hvv, hFb, hra⟩ := (hv.keep hk2 hF.stays).at hget
    cases hvv
    refine pl_val _ rfl rfl (val_index i hT rfl rfl rfl rfl rfl hlt w2) ?_
    refine pl_val _ rfl rfl (val_load (vcell (nm, sz)) hT rfl rfl rfl hra) ?_
    refine pl_op rfl rfl (opTo_allocN _ rfl zero_var ?_)
    intro w3 c hc3 hs3 hk3 hC3
    refine pl_op rfl rfl (opTo_storeN _ rfl rfl rfl rfl (by kernel_rfl) hC3 (by simp [vcell, varZ]) (vcell_one _) ?_)
    intro w4 hs4 hk4 hC4
    rw [splice_whole (by rfl)] at hC4
    have hk24 : Keep [] w2 w4 := hk3.trB hk4 (by omega)
    have hB4 := hk24.blk hB2 (by simp)
    have hk4w := hk2.tr hk24
    unfold vcell at hC4
    clear hk3 hk4 hC3
    refine au ?_
    refine pl_val _ rfl rfl (val_load1 hT rfl rfl rfl (hC4.cell rfl)) ?_
    refine pl_op rfl rfl (opTo_call rfl rfl rfl rfl (by decide +kernel) ((nameText_ret nm (by omega) w4).mono ?_))
    rintro v5 w5 ⟨rfl, rfl⟩
    cases hno : nameOk nm with
    | false =>
      refine au ?_
      refine rn_ret Tryd.func16 (.inl ⟨_, rfl, rfl⟩) ⟨?_, hk4w⟩
      have hcv : chkV [] 0 vs = 8 := by rw [hch, if_pos hno]
      rw [hcv]
      rfl
    | true =>
      rw [hno, if_neg (by simp)] at hch
      refine au ?_
      refine rn_ind (fun m σ w' => ∃ k : Nat, k ≤ i ∧ m = i - k ∧ σ = [(1, .pointer (some ⟨p, 0, none⟩)), (3, .int .i64 (sumV (vs.take i))), (4, .int .i64 (i : Nat)), (5, .pointer (some ⟨c, 0, none⟩)), (6, .int .i64 (k : Nat))] ∧ (vs.take k).any (sameName (nm, sz)) = false ∧ Keep [] w5 w') i _ ?_ ⟨0, by omega, by omega, rfl, by simp, Keep.refl _ _⟩ ?_
      · exact ⟨rfl, rfl, rfl, rfl, rfl, trivial⟩
      rintro m σ w6 ih3 ⟨k, hk, rfl, rfl, hany, hk6⟩
      refine au ?_
      by_cases hki : k < i
      · refine ye ?_
        refine au ?_
        have hgk : vs[k]? = some (vs[k]'(by omega)) := List.getElem?_eq_getElem (by omega)
        have hmem : vs[k]'(by omega) ∈ vs.take i := by
          rw [List.mem_iff_getElem?]
          exact ⟨k, by rw [List.getElem?_take, if_pos hki]; exact hgk⟩
        obtain ⟨b2, q2, _, hv2, hF2, hr2⟩ := hv.at hgk
        cases hv2
        have hsuk : (vs.take (k + 1)).any (sameName (nm, sz)) = sameName (nm, sz) (vs[k]'(by omega)) := by
          rw [List.take_succ_eq_append_getElem (by omega), List.any_append, hany]
          simp
        generalize vs[k]'(by omega) = y at *
        have hkw6 := hk4w.tr hk6
        refine rn_draw (fun w' => Keep [] w6 w') [] hMix ?_
        have hS : Keep [] w6 w6.drew := (Keep.refl _ _).drew
        generalize w6.drew = w7 at *
        refine tk 0 ?_
        refine dr_val 1 _ rfl (by decide +kernel) rfl rfl (fun w9 hS9 => val_load1 hT rfl rfl rfl (((hk6.tr hS9).blk hB4 (by simp)).cell rfl)) hS ?_
        refine tk 2 ?_
        refine dr_any 3 _ rfl (by decide +kernel) rfl rfl (fun w => val_index k hT rfl rfl rfl rfl rfl (by omega) w) ?_
        refine tk 4 ?_
        refine dr_val 5 (.string y.1) rfl (by decide +kernel) rfl rfl (fun w9 hS9 => val_load1 hT rfl rfl rfl (range_keep hr2 (hkw6.tr hS9) (hF _ hF2) (by simp) 0 (.string y.1) rfl)) hS ?_
        refine tk 6 ?_
        refine dr_val 7 _ rfl (by decide +kernel) rfl rfl (fun w9 hS9 => val_load1 hT rfl rfl rfl (((hk6.tr hS9).blk hC4 (by simp)).cell rfl)) hS ?_
        refine dr_any 8 (.bool (sameName (nm, sz) y)) rfl (by decide +kernel) rfl rfl (fun w => val_eqStr y.1 nm _ rfl rfl rfl rfl w) ?_
        refine dr_done (by decide +kernel) ?_
        cases hsn : sameName (nm, sz) y with
        | true =>
          refine au ?_
          refine rn_ret Tryd.func16 (.inl ⟨_, rfl, rfl⟩) ⟨?_, hkw6.tr hS⟩
          have hcv : chkV [] 0 vs = 9 := by rw [hch, if_pos (List.any_eq_true.2 ⟨_, hmem, hsn⟩)]
          rw [hcv]
          rfl
        | false =>
          refine au ?_
          refine pl_num (((k + 1 : Nat) : Int)) rfl rfl rfl rfl rfl (by simp only [ariP]; omega) ?_
          refine au ?_
          refine rn_sub ?_ (ih3 (i - (k + 1)) [(1, .pointer (some ⟨p, 0, none⟩)), (3, .int .i64 (sumV (vs.take i))), (4, .int .i64 (i : Nat)), (5, .pointer (some ⟨c, 0, none⟩)), (6, .int .i64 ((k + 1 : Nat) : Int))] w7 (by omega) ⟨k + 1, by omega, rfl, rfl, by rw [hsuk, hsn], hk6.tr hS⟩)
          exact ⟨rfl, rfl, rfl, rfl, rfl, trivial⟩
      · have hki' : k = i := by omega
        subst hki'
        rw [if_neg (by rw [hany]; simp)] at hch
        have hC6 := hk6.blk hC4 (by simp)
        have hB6 := hk6.blk hB4 (by simp)
        have hkw6 := hk4w.tr hk6
        refine nay ?_
        refine au ?_
        by_cases h1 : sz < 1
        · refine aub ?_
          refine rn_ret Tryd.func16 (.inl ⟨_, rfl, rfl⟩) ⟨?_, hkw6⟩
          have hcv : chkV [] 0 vs = 1 := by rw [hch, if_pos (.inl h1)]
          rw [hcv]
          rfl
        · by_cases h2 : sz > 48
          · refine aub ?_
            refine rn_ret Tryd.func16 (.inl ⟨_, rfl, rfl⟩) ⟨?_, hkw6⟩
            have hcv : chkV [] 0 vs = 1 := by rw [hch, if_pos (.inr (.inl h2))]
            rw [hcv]
            rfl
          · refine aub ?_
            refine pl_num (sumV (vs.take (k + 1))) rfl rfl rfl rfl rfl (by simp only [ariP]; omega) ?_
            by_cases h3 : sumV (vs.take k) + sz > 48
            · refine aub ?_
              refine rn_ret Tryd.func16 (.inl ⟨_, rfl, rfl⟩) ⟨?_, hkw6⟩
              have hcv : chkV [] 0 vs = 1 := by rw [hch, if_pos (.inr (.inr h3))]
              rw [hcv]
              rfl
            · rw [if_neg (by omega)] at hch
              refine aub ?_
              refine pl_num (sumV (vs.take (k + 1))) rfl rfl rfl rfl rfl (by simp only [ariP]; omega) ?_
              refine au ?_
              refine pl_num (((k + 1 : Nat) : Int)) rfl rfl rfl rfl rfl (by simp only [ariP]; omega) ?_
              refine au ?_
              refine rn_sub ?_ (ih (vs.length - (k + 1)) [(1, .pointer (some ⟨p, 0, none⟩)), (3, .int .i64 (sumV (vs.take (k + 1)))), (4, .int .i64 ((k + 1 : Nat) : Int))] w6 (by omega) ⟨k + 1, by omega, rfl, rfl, hch, by omega, by omega, hB6, hkw6⟩)
              exact ⟨rfl, rfl, rfl, trivial⟩
  · refine nay ?_
    refine au ?_
    have hz : chkV [] 0 vs = 0 := by rw [hch, List.drop_eq_nil_of_le (by omega)]; rfl
    rw [hz]
    simp only [ne_eq, not_true_eq_false, if_false]
    refine pl_val _ rfl rfl (val_load [.slice av vs.length capv, .slice ab body.length capb] hT rfl rfl rfl (hB2.range (by rfl))) ?_
    refine pl_val _ rfl rfl (val_build _ rfl rfl (built_looking _ _ _ _ _ _) w2) ?_
    refine pl_op rfl rfl (opTo_boxN [.slice av vs.length capv, .slice ab body.length capb, .int .i64 0, .int .i64 0] rfl rfl rfl ?_)
    intro w3 j hj hs3 hk3 hJ3
    have hJ3' : Blk w3 j (lkC (.slice av vs.length capv) (.slice ab body.length capb) 0 0) tLk := hJ3
    have hB3 := hk3.blk hB2 (by simp)
    have hk3w := hk2.tr hk3
    refine au ?_
    refine pl_val _ rfl rfl (val_load1 hT rfl rfl rfl (hB3.cell rfl)) ?_
    refine pl_op rfl rfl (opTo_call rfl rfl rfl rfl (by decide +kernel) ((lookList_ret _ body (Nat.lt_succ_self _) hsz 0 0 0 (hb.keep hk3w hF.stays) (hF.keep hk3w) (fun h => by have := hF j h; have := hk2.size; omega) hJ3' (.inl (by omega)) (by omega) (fun _ => by omega)).mono ?_))
    rintro v4 w4 ⟨rfl, ⟨n4, c4, hJ4, hT4⟩, hk4⟩
    have hJ4' := hJ4
    unfold lkC at hJ4'
    refine au ?_
    refine pl_val _ rfl rfl (val_load1 hT rfl rfl rfl (hJ4'.cell rfl)) ?_
    refine au ?_
    refine rn_ret Tryd.func16 (.inl ⟨_, rfl, rfl⟩) ⟨?_, hk3w.trB hk4 (by have := hk2.size; omega)⟩
    have ht := hT4.2.1 rfl
    cases hx : chkSs vs.length body 0 0 with
    | ok q => rw [(ht.1 q hx).2]; rfl
    | error e => rw [ht.2 e hx]; rfl

end E
end Go.Proofs.YtbojicehfbeepadDoor

/- Contract of the document's F. -/
namespace Go.Proofs.YtbojicehfbeepadDoor
set_option maxRecDepth 20000
set_option maxHeartbeats 4000000
namespace E
open Go.Proofs

theorem faultR_ret (a b : Int) (w : World) : Ret Tryd.prog 17 [.int .i64 a, .int .i64 b] w fun r w' => r = .agg #[.int .i64 a, .int .i64 b] ∧ Keep [] w w' := by
  refine ret_of 8 Tryd.func17 rfl rfl (by simp) ?_
  refine au ?_
  refine pl_op rfl rfl (opTo_allocN _ rfl zero_fault ?_)
  intro w1 c hc hs1 hk1 hb1
  refine au ?_
  refine pl_val _ rfl rfl (val_build _ rfl rfl (built_fault a b) w1) ?_
  refine pl_op rfl rfl (opTo_storeN [.int .i64 a, .int .i64 b] rfl rfl rfl rfl size_fault hb1 (by simp) (one_fault _ _) ?_)
  intro w2 hs2 hk2 hb2
  rw [splice_whole (by rfl)] at hb2
  refine au ?_
  exact rn_ret Tryd.func17 (.inr (.inr (.inl ⟨_, _, _, rfl, rfl, blk_loadVar hT hb2 rfl⟩))) ⟨rfl, hk1.trB hk2 (by omega)⟩

end E
end Go.Proofs.YtbojicehfbeepadDoor

/- Contract of the document's Printed. -/
namespace Go.Proofs.YtbojicehfbeepadDoor
set_option maxRecDepth 20000
set_option maxHeartbeats 4000000
namespace E
open Go.Proofs

theorem nm8_of {vs : List VarT} (h : chkV [] 0 vs = 0) : nm8 vs := fun y hy => by
  have := (chkV_names h).1 y hy
  unfold nameB at this
  simp only [Bool.and_eq_true, decide_eq_true_eq] at this
  rw [← size_toList]
  exact this.2
theorem chkV_size : ∀ {vs : List VarT} {done : List ByteArray} {n : Int}, chkV done n vs = 0 → ∀ x ∈ vs, 1 ≤ x.2 ∧ x.2 ≤ 48
  | [], _, _, _, x, hx => by simp at hx
  | y :: r, done, n, h, x, hx => by
    unfold chkV at h
    split at h
    · cases h
    · split at h
      · cases h
      · split at h
        · cases h
        · rename_i h3
          rcases List.mem_cons.1 hx with rfl | hx
          · omega
          · exact chkV_size h x hx
theorem printV_len : ∀ (vs : List VarT), nm8 vs → (∀ x ∈ vs, 1 ≤ x.2 ∧ x.2 ≤ 48) → (printV vs).length ≤ 40 * vs.length
  | [], _, _ => by simp [printV]
  | x :: r, h, h2 => by
    have i1 := printV_len r (fun y hy => h y (List.mem_cons_of_mem _ hy)) (fun y hy => h2 y (List.mem_cons_of_mem _ hy))
    have i2 := h x (List.mem_cons_self ..)
    have i3 := h2 x (List.mem_cons_self ..)
    have i4 := Go.Lib.itoa_length_le x.2 (by omega) (by omega)
    have i5 : letT.length = 3 := by decide
    rw [← size_toList] at i2
    simp only [printV, List.length_append, List.length_cons]
    omega
theorem printed_ret {F : Nat → Prop} {w : World} {x : Value} {vs : List VarT} {body : List ST} (h : ProgV F w x vs body) (hF : In F w) (hw : Lt w) (hnm : ∀ y ∈ vs, y.1.size ≤ 100000) (hsz : szSs body ≤ 100000) (hlong : longSs body) :
    Ret Tryd.prog 9 [x] w fun r w' => r = .tuple #[.string (str (txtX (printedOf vs body))), .agg #[.int .i64 (fltX (printedOf vs body)).1, .int .i64 (fltX (printedOf vs body)).2]] ∧ Keep [] w w' := by
  have hprog := h
  obtain ⟨vv, bv, rfl, hv, hb⟩ := h
  obtain ⟨av, capv, rfl⟩ := hv.form
  obtain ⟨ab, capb, rfl⟩ := hb.form
  refine ret_of 63 Tryd.func9 rfl rfl (by simp) ?_
  refine au ?_
  refine pl_op rfl rfl (opTo_boxN [.slice av vs.length capv, .slice ab body.length capb] rfl rfl rfl ?_)
  intro w1 x1 hx1 hs1 hk1 hX1'
  refine au ?_
  refine pl_op rfl rfl (opTo_allocN _ rfl zero_fault ?_)
  intro w2 x3 hx3 hs2 hk2 hf2
  have hX1 := hk2.blk hX1' (by simp)
  have hk := hk1.tr hk2
  have hne : x1 ≠ x3 := by omega
  have hx3w : w.heap.size ≤ x3 := by omega
  have hF2 := hF.keep hk
  have hw2 := hw.keep hk
  have hv2 := hv.keep hk hF.stays
  have hb2 := hb.keep hk hF.stays
  have hprog2 := hprog.keep hk hF.stays
  clear hX1' hk1 hk2
  refine au ?_
  refine pl_val _ rfl rfl (val_load [.slice av vs.length capv, .slice ab body.length capb] hT rfl rfl rfl (hX1.range (by rfl))) ?_
  refine pl_op rfl rfl (opTo_call (fst := []) (cap := []) rfl rfl rfl rfl (by decide +kernel) ((refFault_ret hprog2 hF2 hnm hsz).mono ?_))
  rintro r w3 ⟨rfl, hk3⟩
  obtain ⟨c, hc⟩ : ∃ c, c = progFault vs body := ⟨_, rfl⟩
  rw [← hc]
  refine au ?_
  by_cases hc0 : c = 0
  · refine nay ?_
    obtain ⟨hvl, hcv, kk, hcs⟩ := progFault_ok (hc.symm.trans hc0)
    have hn := nm8_of hcv
    have hsv := chkV_size hcv
    have hpr := chkSs_pr body hcs hlong
    have hvlen := printV_len vs hn hsv
    have hblen := printB_len hn body hpr
    have hlen := szSs_len body
    have e0 : printedOf vs body = if 6000 < (printV vs ++ printB vs body).length then .error (3, -1) else .ok (printV vs ++ printB vs body) := by
      unfold printedOf
      rw [← hc, if_neg (by omega)]
    refine auj ?_
    refine rn_seq ?_
    refine rn_plain ?_
    refine auj ?_
    refine rn_seq ?_
    refine rn_with (fun σ' w' => Keep [] w2 w' ∧ Sub [(1, .pointer (some ⟨x1, 0, none⟩)), (2, .string (str [])), (3, .pointer (some ⟨x3, 0, none⟩)), (5, .string (str (printV vs)))] σ') ?_ ?_
    rotate_left
    · intro fin1
      refine rn_seq ?_
      refine rn_plain ?_
      refine auj ?_
      refine rn_block ?_
      refine rn_ind (fun m σ w' => ∃ i : Nat, i ≤ vs.length ∧ m = vs.length - i ∧ σ = [(1, .pointer (some ⟨x1, 0, none⟩)), (2, .string (str [])), (3, .pointer (some ⟨x3, 0, none⟩)), (5, .string (str (printV (vs.take i)))), (6, .int .i64 (i : Nat))] ∧ Keep [] w2 w') vs.length _ ?_ ⟨0, by omega, by omega, rfl, hk3⟩ ?_
      · have e0 : printV (vs.take 0) = [] := by simp [printV]
        exact ⟨rfl, rfl, rfl, by rw [e0]; rfl, rfl, trivial⟩
      rintro m σ w6 ih2 ⟨i, hi, rfl, rfl, hk6⟩
      refine au ?_
      refine pl_val _ rfl rfl (val_load1 hT rfl rfl rfl ((hk6.blk hX1 (by simp)).cell rfl)) ?_
      refine au ?_
      by_cases hlt : i < vs.length
      · refine ye ?_
        refine au ?_
        have hx : vs[i]? = some vs[i] := List.getElem?_eq_getElem hlt
        have htk := printV_take hx
        have hpt := printV_len (vs.take i) (fun y hy => hn y (List.mem_of_mem_take hy)) (fun y hy => hsv y (List.mem_of_mem_take hy))
        have hti : (vs.take i).length ≤ 8 := by simp; omega
        have hmem := List.getElem_mem hlt
        have hni := hn _ hmem
        have hsi := hsv _ hmem
        have hil := Go.Lib.itoa_length_le vs[i].2 (by omega) (by omega)
        obtain ⟨b1, q1, _, hv1, hF1, hr1⟩ := hv2.at hx
        cases hv1
        obtain ⟨nm, hnm'⟩ : ∃ nm, nm = vs[i].1.data.toList := ⟨_, rfl⟩
        have enm : vs[i].1 = str nm := by rw [hnm', str_data]
        have hnl : nm.length ≤ 8 := by rw [hnm', size_toList]; exact hni
        refine rn_draw (fun w' => Keep [] w6 w') [] hMix ?_
        have hS : Keep [] w6 w6.drew := (Keep.refl _ _).drew
        generalize w6.drew = w7 at *
        refine tk 0 ?_
        refine tk 1 ?_
        refine dr_val 2 _ rfl (by decide +kernel) rfl rfl (fun w9 hS9 => val_load1 hT rfl rfl rfl (((hk6.tr hS9).blk hX1 (by simp)).cell rfl)) hS ?_
        refine tk 3 ?_
        refine dr_any 4 _ rfl (by decide +kernel) rfl rfl (fun w => val_index i hT rfl rfl rfl rfl rfl hlt w) ?_
        refine tk 5 ?_
        refine dr_val 6 (.string (str nm)) rfl (by decide +kernel) rfl rfl (fun w9 hS9 => val_load1 hT rfl rfl rfl (range_keep hr1 (hk6.tr hS9) (hF2 _ hF1) (by simp) 0 (.string (str nm)) (by rw [← enm]; rfl))) hS ?_
        refine dr_any 7 _ rfl (by decide +kernel) rfl rfl (fun w => val_add [108, 101, 116, 32] nm rfl rfl rfl (by simp; omega) w) ?_
        refine dr_any 8 _ rfl (by decide +kernel) rfl rfl (fun w => val_add ([108, 101, 116, 32] ++ nm) [32] rfl rfl rfl (by simp; omega) w) ?_
        refine tk 9 ?_
        refine dr_val 10 _ rfl (by decide +kernel) rfl rfl (fun w9 hS9 => val_load1 hT rfl rfl rfl (((hk6.tr hS9).blk hX1 (by simp)).cell rfl)) hS ?_
        refine tk 11 ?_
        refine dr_any 12 _ rfl (by decide +kernel) rfl rfl (fun w => val_index i hT rfl rfl rfl rfl rfl hlt w) ?_
        refine tk 13 ?_
        refine dr_val 14 (.int .i64 vs[i].2) rfl (by decide +kernel) rfl rfl (fun w9 hS9 => val_load1 hT rfl rfl rfl (range_keep hr1 (hk6.tr hS9) (hF2 _ hF1) (by simp) 1 (.int .i64 vs[i].2) rfl)) hS ?_
        refine dr_op 15 rfl (by decide +kernel) rfl rfl (opTo_call rfl rfl rfl rfl (by decide +kernel) ((itoaR_ret vs[i].2 (by omega) (by omega) (hw2.keep (hk6.tr hS))).mono ?_))
        rintro v8 w8 ⟨rfl, hk8⟩
        refine ⟨fun _ => hS.tr hk8, ?_⟩
        refine dr_any 16 _ rfl (by decide +kernel) rfl rfl (fun w => val_add ([108, 101, 116, 32] ++ nm ++ [32]) _ rfl rfl rfl (by simp; omega) w) ?_
        refine dr_any 17 _ rfl (by decide +kernel) rfl rfl (fun w => val_add _ [10] rfl rfl rfl (by simp; omega) w) ?_
        refine dr_any 18 _ rfl (by decide +kernel) rfl rfl (fun w => val_add (printV (vs.take i)) _ rfl rfl rfl (by simp; omega) w) ?_
        refine tk 19 ?_
        refine dr_done (by decide +kernel) ?_
        have hk68 := (hk6.tr hS).tr hk8
        refine au ?_
        refine pl_num (((i + 1 : Nat) : Int)) rfl rfl rfl rfl rfl (by simp only [ariP]; omega) ?_
        refine au ?_
        refine rn_sub ?_ (ih2 (vs.length - (i + 1)) [(1, .pointer (some ⟨x1, 0, none⟩)), (2, .string (str [])), (3, .pointer (some ⟨x3, 0, none⟩)), (5, .string (str (printV (vs.take (i + 1))))), (6, .int .i64 ((i + 1 : Nat) : Int))] w8 (by omega) ⟨i + 1, by omega, rfl, rfl, hk68⟩)
        have e : printV (vs.take (i + 1)) = printV (vs.take i) ++ ([108, 101, 116, 32] ++ nm ++ [32] ++ Go.Lib.itoa vs[i].2 ++ [10]) := by
          rw [htk, ← hnm']
          have e3 : letT = [108, 101, 116] := by decide
          rw [e3]
          simp
        rw [e]
        exact ⟨rfl, rfl, rfl, rfl, rfl, trivial⟩
      · refine nay ?_
        refine auj ?_
        rw [List.take_of_length_le (by omega)]
        exact fin1 _ _ ⟨hk6, rfl, rfl, rfl, rfl, trivial⟩
    rintro σ' w5 ⟨hk5, hsub⟩
    refine rn_sub hsub ?_
    refine auj ?_
    refine rn_seq ?_
    refine rn_with (fun σ' w' => Keep [] w2 w' ∧ Sub [(1, .pointer (some ⟨x1, 0, none⟩)), (2, .string (str [])), (3, .pointer (some ⟨x3, 0, none⟩)), (5, .string (str (printV vs ++ printB vs body)))] σ') ?_ ?_
    rotate_left
    · intro fin1
      refine rn_seq ?_
      refine rn_plain ?_
      refine auj ?_
      refine rn_block ?_
      refine rn_ind (fun m σ w' => ∃ i : Nat, i ≤ body.length ∧ m = body.length - i ∧ σ = [(1, .pointer (some ⟨x1, 0, none⟩)), (2, .string (str [])), (3, .pointer (some ⟨x3, 0, none⟩)), (5, .string (str (printV vs ++ printB vs (body.take i)))), (7, .int .i64 (i : Nat))] ∧ Keep [] w2 w') body.length _ ?_ ⟨0, by omega, by omega, rfl, hk5⟩ ?_
      · have e0 : printV vs ++ printB vs (body.take 0) = printV vs := by simp [printB]
        exact ⟨rfl, rfl, rfl, by rw [e0]; rfl, rfl, trivial⟩
      rintro m σ w6 ih2 ⟨i, hi, rfl, rfl, hk6⟩
      refine au ?_
      refine pl_val _ rfl rfl (val_load1 hT rfl rfl rfl ((hk6.blk hX1 (by simp)).cell rfl)) ?_
      refine au ?_
      by_cases hlt : i < body.length
      · refine ye ?_
        refine au ?_
        have hx : body[i]? = some body[i] := List.getElem?_eq_getElem hlt
        have hszi := szSs_at hx
        have hpi := prSs_at hpr hx
        have hpl := printS_len hn _ hpi
        have htk := printB_take vs hx
        have hpt := printB_len hn _ (prSs_take i hpr)
        have hst' := szSs_take body i
        obtain ⟨b1, q1, _, ci, hv1, hF1, hr1, hc1⟩ := hb2.at hx
        cases hv1
        refine rn_draw (fun w' => Keep [] w6 w') [] hMix ?_
        have hS : Keep [] w6 w6.drew := (Keep.refl _ _).drew
        generalize w6.drew = w7 at *
        refine tk 0 ?_
        refine dr_val 1 (.agg #[.slice av vs.length capv, .slice (some ⟨b1, q1, none⟩) body.length capb]) rfl (by decide +kernel) rfl rfl (fun w9 hS9 => val_load [.slice av vs.length capv, .slice (some ⟨b1, q1, none⟩) body.length capb] hT rfl rfl rfl (((hk6.tr hS9).blk hX1 (by simp)).range (by rfl))) hS ?_
        refine tk 2 ?_
        refine dr_val 3 _ rfl (by decide +kernel) rfl rfl (fun w9 hS9 => val_load1 hT rfl rfl rfl (((hk6.tr hS9).blk hX1 (by simp)).cell rfl)) hS ?_
        refine tk 4 ?_
        refine dr_any 5 _ rfl (by decide +kernel) rfl rfl (fun w => val_index i hT rfl rfl rfl rfl rfl hlt w) ?_
        refine dr_val 6 (.agg ci.toArray) rfl (by decide +kernel) rfl rfl (fun w9 hS9 => val_load ci hT rfl rfl (by rw [hc1.length]; rfl) (range_keep hr1 (hk6.tr hS9) (hF2 _ hF1) (by simp))) hS ?_
        refine dr_op 7 rfl (by decide +kernel) rfl rfl (opTo_call rfl rfl rfl rfl (by decide +kernel) ((stmtText_ret hn (szS body[i] + 1) body[i] (by omega) (by omega) hpi (hv2.keep (hk6.tr hS) hF2.stays) (hc1.keep (hk6.tr hS) hF2.stays) (hF2.keep (hk6.tr hS)) (hw2.keep (hk6.tr hS))).mono ?_))
        rintro v8 w8 ⟨rfl, hk8⟩
        refine ⟨fun _ => hS.tr hk8, ?_⟩
        refine dr_any 8 _ rfl (by decide +kernel) rfl rfl (fun w => val_add _ [10] rfl rfl rfl (by simp; omega) w) ?_
        refine dr_any 9 _ rfl (by decide +kernel) rfl rfl (fun w => val_add (printV vs ++ printB vs (body.take i)) _ rfl rfl rfl (by simp; omega) w) ?_
        refine tk 10 ?_
        refine dr_done (by decide +kernel) ?_
        have hk68 := (hk6.tr hS).tr hk8
        refine au ?_
        refine pl_num (((i + 1 : Nat) : Int)) rfl rfl rfl rfl rfl (by simp only [ariP]; omega) ?_
        refine au ?_
        refine rn_sub ?_ (ih2 (body.length - (i + 1)) [(1, .pointer (some ⟨x1, 0, none⟩)), (2, .string (str [])), (3, .pointer (some ⟨x3, 0, none⟩)), (5, .string (str (printV vs ++ printB vs (body.take (i + 1))))), (7, .int .i64 ((i + 1 : Nat) : Int))] w8 (by omega) ⟨i + 1, by omega, rfl, rfl, hk68⟩)
        rw [htk, ← List.append_assoc]
        exact ⟨rfl, rfl, rfl, rfl, rfl, trivial⟩
      · refine nay ?_
        refine auj ?_
        rw [List.take_of_length_le (by omega)]
        exact fin1 _ _ ⟨hk6, rfl, rfl, rfl, rfl, trivial⟩
    rintro σ' w6 ⟨hk6, hsub⟩
    refine rn_sub hsub ?_
    obtain ⟨TT, hTT⟩ : ∃ TT, TT = printV vs ++ printB vs body := ⟨_, rfl⟩
    rw [← hTT] at e0 ⊢
    refine au ?_
    refine pl_val _ rfl rfl (val_len TT (by decide +kernel) rfl rfl w6) ?_
    by_cases hlt : 6000 < TT.length
    · refine ye ?_
      refine au ?_
      refine pl_op rfl rfl (opTo_call (fst := []) (cap := []) rfl rfl rfl rfl (by decide +kernel) ((faultR_ret 3 (-1) w6).mono ?_))
      rintro r w7 ⟨rfl, hk7⟩
      have hf7 := (hk6.tr hk7).blk hf2 (by simp)
      refine au ?_
      refine pl_op rfl rfl (opTo_storeN [.int .i64 3, .int .i64 (-1)] rfl rfl rfl rfl size_fault hf7 (by simp) (one_fault _ _) ?_)
      intro w8 hs8 hk8 hf8
      rw [splice_whole (by rfl)] at hf8
      refine au ?_
      refine rn_retTC Tryd.func9 rfl rfl rfl (blk_loadVar hT hf8 rfl) ⟨?_, (hk.tr (hk6.tr hk7)).trB hk8 hx3w⟩
      rw [e0, if_pos hlt]
      rfl
    · refine nay ?_
      refine au ?_
      refine pl_val _ rfl rfl (val_build _ rfl rfl built_fault0 w6) ?_
      refine au ?_
      refine pl_op rfl rfl (opTo_storeN [.int .i64 0, .int .i64 0] rfl rfl rfl rfl size_fault (hk6.blk hf2 (by simp)) (by simp) (one_fault _ _) ?_)
      intro w8 hs8 hk8 hf8
      rw [splice_whole (by rfl)] at hf8
      refine au ?_
      refine rn_retTC Tryd.func9 rfl rfl rfl (blk_loadVar hT hf8 rfl) ⟨?_, (hk.tr hk6).trB hk8 hx3w⟩
      rw [e0, if_neg hlt]
      rfl
  · refine ye ?_
    refine au ?_
    refine pl_op rfl rfl (opTo_call (fst := []) (cap := []) rfl rfl rfl rfl (by decide +kernel) ((faultR_ret c (-1) w3).mono ?_))
    rintro r w4 ⟨rfl, hk4⟩
    have hf4 := (hk3.tr hk4).blk hf2 (by simp)
    refine au ?_
    refine pl_op rfl rfl (opTo_storeN [.int .i64 c, .int .i64 (-1)] rfl rfl rfl rfl size_fault hf4 (by simp) (one_fault _ _) ?_)
    intro w8 hs8 hk8 hf8
    rw [splice_whole (by rfl)] at hf8
    refine au ?_
    refine rn_retTC Tryd.func9 rfl rfl rfl (blk_loadVar hT hf8 rfl) ⟨?_, (hk.tr (hk3.tr hk4)).trB hk8 hx3w⟩
    have e0 : printedOf vs body = .error (c, -1) := by
      unfold printedOf
      rw [← hc, if_pos hc0]
    rw [e0]
    rfl
end E
end Go.Proofs.YtbojicehfbeepadDoor

/- The walk of RenderPrints. -/
namespace Go.Proofs.YtbojicehfbeepadDoor
set_option maxRecDepth 20000
set_option maxHeartbeats 4000000
namespace E
open Go.Proofs

theorem renderPrints_ret (hP : PrC) {w : World} {x : Value} {vs : List VarT} {body : List ST} (h : ProgV (fun b => b < w.heap.size) w x vs body) (hlong : longSs body) (hw : Lt w) :
    Ret Tryd.prog 3 [x] w fun r w' => r = .bool true ∧ Keep [] w w' := by
  have hF : In (fun b => b < w.heap.size) w := fun c hc => hc
  have hh := h
  obtain ⟨vv, bv, rfl, hv, hb⟩ := h
  obtain ⟨av, capv, rfl⟩ := hv.form
  obtain ⟨ab, capb, rfl⟩ := hb.form
  refine ret_of 37 Tryd.func3 rfl rfl (by simp) ?_
  refine au ?_
  refine pl_op rfl rfl (opTo_boxN [.slice av vs.length capv, .slice ab body.length capb] rfl rfl rfl ?_)
  intro w1 p hp0 hs1 hk1 hp1
  refine au ?_
  refine pl_op rfl rfl (opTo_call (fst := []) (cap := []) rfl rfl rfl rfl (by decide +kernel) ((renderBegun_ret hP (hw.keep hk1)).mono ?_))
  rintro r w2 ⟨rfl, hk2⟩
  have hk02 := hk1.tr hk2
  have hp2 := hk2.blk hp1 (by simp)
  refine au ?_
  refine pl_val _ rfl rfl (val_load [.slice av vs.length capv, .slice ab body.length capb] hT rfl rfl rfl (hp2.range (by rfl))) ?_
  refine pl_op rfl rfl (opTo_call (fst := []) (cap := []) rfl rfl rfl rfl (by decide +kernel) ((great_ret (hh.keep hk02 hF.stays) (hF.keep hk02)).mono ?_))
  rintro r w3 ⟨⟨g, rfl, hg⟩, hk3⟩
  have hk03 := hk02.tr hk3
  have hp3 := hk3.blk hp2 (by simp)
  cases g with
  | true =>
    refine au ?_
    exact rn_ret Tryd.func3 (.inl ⟨_, rfl, rfl⟩) ⟨rfl, hk03⟩
  | false =>
    obtain ⟨h30, hnm, hsz⟩ := hg rfl
    have hnm' : ∀ y ∈ vs, y.1.size ≤ 100000 := fun y hy => by have := hnm y hy; omega
    refine au ?_
    refine pl_val _ rfl rfl (val_load [.slice av vs.length capv, .slice ab body.length capb] hT rfl rfl rfl (hp3.range (by rfl))) ?_
    refine pl_op rfl rfl (opTo_call (fst := []) (cap := []) rfl rfl rfl rfl (by decide +kernel) ((Own_ret (hh.keep hk03 hF.stays) (hF.keep hk03) h30 (by omega)).mono ?_))
    rintro r w4 ⟨⟨ov, ob, g, ts, B1, rfl, hov, hob, her, _, _, _, _, hB1⟩, hk4⟩
    have hk04 := hk03.tr hk4
    have hp4 := hk4.blk hp3 (by simp)
    have hob' := hob.plain
    rw [her] at hob'
    have hq : ProgV (fun b => b < w4.heap.size) w4 (.agg #[ov, ob]) vs body := ⟨ov, ob, rfl, hov.mono fun b hb => by omega, hob'⟩
    have hq2 := hq
    obtain ⟨_, _, he, hv', hb'⟩ := hq2
    obtain ⟨av', capv', rfl⟩ := hov.form
    obtain ⟨ab', capb', rfl⟩ := hob'.form
    have hin4 : In (fun b => b < w4.heap.size) w4 := fun c hc => hc
    refine pl_op rfl rfl (opTo_allocN _ rfl zero_pr ?_)
    intro w5 b3 hb30 hs5 hk5 hq5
    refine pl_op rfl rfl (opTo_storeN [.slice av' vs.length capv', .slice ab' body.length capb'] rfl rfl rfl rfl size_pr hq5 (by simp [pz]) (one_pr _ _ _ _ _ _) ?_)
    intro w6 hs6 hk6 hq6
    rw [splice_whole (by rfl)] at hq6
    have hk46 : Keep [] w4 w6 := hk5.trB hk6 (by omega)
    have hk06 := hk04.tr hk46
    have hp6 := hk46.blk hp4 (by simp)
    refine au ?_
    refine pl_val _ rfl rfl (val_load [.slice av' vs.length capv', .slice ab' body.length capb'] hT rfl rfl rfl (hq6.range (by rfl))) ?_
    refine pl_op rfl rfl (opTo_call (fst := []) (cap := []) rfl rfl rfl rfl (by decide +kernel) ((hP.print (hq.keep hk46 hin4.stays) (hin4.keep hk46) (hw.keep hk06) (by omega) hnm' (by omega) hlong).mono ?_))
    rintro r w7 ⟨rfl, hk7⟩
    obtain ⟨X, hX⟩ : ∃ X, X = printedOf vs body := ⟨_, rfl⟩
    rw [← hX]
    obtain ⟨⟨fa, fb⟩, hfl⟩ : ∃ f, f = fltX X := ⟨_, rfl⟩
    rw [← hfl]
    refine au ?_
    refine pl_op rfl rfl (opTo_allocN _ rfl zero_fault ?_)
    intro w8 b5 hb50 hs8 hk8 hf8
    refine au ?_
    refine pl_op rfl rfl (opTo_storeN [.int .i64 fa, .int .i64 fb] rfl rfl rfl rfl size_fault hf8 (by simp) (one_fault _ _) ?_)
    intro w9 hs9 hk9 hf9
    rw [splice_whole (by rfl)] at hf9
    have hk69 : Keep [] w6 w9 := hk7.tr (hk8.trB hk9 (by omega))
    have hk09 := hk06.tr hk69
    have hp9 := hk69.blk hp6 (by simp)
    have hq9 := hk69.blk hq6 (by simp)
    refine au ?_
    refine pl_val _ rfl rfl (val_load [.slice av vs.length capv, .slice ab body.length capb] hT rfl rfl rfl (hp9.range (by rfl))) ?_
    refine pl_op rfl rfl (opTo_call (fst := []) (cap := []) rfl rfl rfl rfl (by decide +kernel) ((printed_ret (hh.keep hk09 hF.stays) (hF.keep hk09) (hw.keep hk09) hnm' (by omega) hlong).mono ?_))
    rintro r w10 ⟨rfl, hk10⟩
    rw [← hX, ← hfl]
    refine au ?_
    refine pl_op rfl rfl (opTo_allocN _ rfl zero_fault ?_)
    intro w11 b7 hb70 hs11 hk11 hg11
    refine au ?_
    refine pl_op rfl rfl (opTo_storeN [.int .i64 fa, .int .i64 fb] rfl rfl rfl rfl size_fault hg11 (by simp) (one_fault _ _) ?_)
    intro w12 hs12 hk12 hg12
    rw [splice_whole (by rfl)] at hg12
    have hk912 : Keep [] w9 w12 := hk10.tr (hk11.trB hk12 (by omega))
    have hk012 := hk09.tr hk912
    have hp12 := hk912.blk hp9 (by simp)
    have hq12 := hk912.blk hq9 (by simp)
    have hf12 := hk912.blk hf9 (by simp)
    have hk412 := (hk46.tr hk69).tr hk912
    refine au ?_
    refine pl_val _ rfl rfl (val_eqS (txtX X) (txtX X) true rfl rfl rfl (by simp) w12) ?_
    refine au ?_
    refine pl_val _ rfl rfl (val_load [.int .i64 fa, .int .i64 fb] hT rfl rfl rfl (hf12.range (by rfl))) ?_
    refine pl_val _ rfl rfl (val_load [.int .i64 fa, .int .i64 fb] hT rfl rfl rfl (hg12.range (by rfl))) ?_
    refine pl_val _ rfl rfl (val_eqTwo fa fa fb fb true (by decide +kernel) rfl rfl rfl (by simp) w12) ?_
    refine au ?_
    refine pl_val _ rfl rfl (val_load [.slice av' vs.length capv', .slice ab' body.length capb'] hT rfl rfl rfl (hq12.range (by rfl))) ?_
    refine pl_val _ rfl rfl (val_load [.slice av vs.length capv, .slice ab body.length capb] hT rfl rfl rfl (hp12.range (by rfl))) ?_
    refine pl_op rfl rfl (opTo_call (fst := []) (cap := []) rfl rfl rfl rfl (by decide +kernel) ((refSame_ret (hq.keep hk412 hin4.stays) (hh.keep hk012 hF.stays) (hin4.keep hk412) (hF.keep hk012) (by omega) (by omega)).mono ?_))
    rintro r w13 ⟨rfl, hk13⟩
    rw [eqP_refl]
    refine au ?_
    exact rn_ret Tryd.func3 (.inl ⟨_, rfl, rfl⟩) ⟨rfl, hk012.tr hk13⟩
end E
end Go.Proofs.YtbojicehfbeepadDoor

/- Laws of single operations that strings.Builder's methods take: a pointer held against nil and against itself, turned to a bare pointer and back, abi.NoEscape; a string appended to bytes; SliceData and String of bytes. -/
namespace Go.Proofs.YtbojicehfbeepadDoor
set_option maxRecDepth 20000
set_option maxHeartbeats 4000000
namespace E
open Go.Proofs

section
variable {P : Program} {T : Tbl} {n : Nat} {σ : Env} {o : Oper} {w : World} {v : Value}

theorem val_nilNil {t t' : Nat} {x : Operand} (h : isPtr P t = true) (ho : o.op = .binOp .eql t x (.const (.pointer none)) t') (hx : ev σ x = some (.pointer none)) (w : World) : Val P n σ o w (.bool true) := by
  intro ac ha
  unfold isPtr at h
  split at h
  · rename_i e hu
    have he : ∀ d, (Op.equalIn (d + 1) t (.pointer none) (.pointer none)).run P w = .ok true w := fun d => by
      simp [Op.equalIn, run_underlying hu]
    have he' : (Op.equal t (.pointer none) (.pointer none)).run P w = .ok true w := he 9999
    have hc : ac.eval (.const (.pointer none)) = .pointer none := rfl
    simp [execOp, ho, ha.eval hx, hc, eqGuard, binOp, he']
  · cases h

def ptrSz (P : Program) (t : Nat) : Bool :=
  match P.underlying t with
  | some (.pointer e) => match P.info? e with
    | some i => i.size != 0
    | none => false
  | _ => false
theorem val_neSelf {t t' : Nat} {x y : Operand} {ad : Addr} (h : ptrSz P t = true) (ho : o.op = .binOp .neq t x y t') (hx : ev σ x = some (.pointer (some ad))) (hy : ev σ y = some (.pointer (some ad))) (w : World) : Val P n σ o w (.bool false) := by
  intro ac ha
  unfold ptrSz at h
  split at h
  · rename_i e hu
    split at h
    · rename_i i hi
      have he := Lib.run_neq_ptr_same (P := P) w ad hu hi
      simp [execOp, ho, ha.eval hx, ha.eval hy, eqGuard, he]
    · cases h
  · cases h

def isUns (P : Program) (t : Nat) : Bool :=
  match P.underlying t with
  | some .unsafePointer => true
  | _ => false
theorem isUns_spec {t : Nat} (h : isUns P t = true) : P.underlying t = some .unsafePointer := by
  unfold isUns at h
  split at h
  · assumption
  · cases h

theorem val_toUnsafe {s d : Nat} {x : Operand} {b i : Nat} {L : List Value} {e : TypeId} (h : ptrSz P s = true) (hd : isUns P d = true) (ho : o.op = .convert s d x) (hx : ev σ x = some (.pointer (some ⟨b, i, none⟩))) (hb : Blk w b L e) (hi : i < L.length) : Val P n σ o w (.pointer (some ⟨b, i, none⟩)) := by
  intro ac ha
  unfold ptrSz at h
  split at h
  · rename_i u hu
    split at h
    · rename_i j hj
      have hne : j.size ≠ 0 := by simpa using h
      have hb' := hb
      unfold Blk at hb'
      have hr := Lib.run_to_unsafe (P := P) w ⟨b, i, none⟩ hu (isUns_spec hd) hj hne (e := e) (cells := L.length) (by simp [World.shape?, hb']) hi
      simp [execOp, ho, ha.eval hx, hr]
    · cases h
  · cases h

def liesOk (P : Program) (d e cells i : Nat) : Bool :=
  match P.underlying d with
  | some (.pointer u) => (match P.info? u with | some _ => true | none => false) && liesAt P P.depth e (cells / P.cellsOf e) i u 1
  | _ => false
theorem val_fromUnsafe {s d : Nat} {x : Operand} {b i : Nat} {L : List Value} {e : TypeId} (h : liesOk P d e L.length i = true) (hs : isUns P s = true) (ho : o.op = .convert s d x) (hx : ev σ x = some (.pointer (some ⟨b, i, none⟩))) (hb : Blk w b L e) : Val P n σ o w (.pointer (some ⟨b, i, none⟩)) := by
  intro ac ha
  unfold liesOk at h
  split at h
  · rename_i u hu
    simp only [Bool.and_eq_true] at h
    obtain ⟨h1, h2⟩ := h
    split at h1
    · rename_i j hj
      have hb' := hb
      unfold Blk at hb'
      have hr := Lib.run_from_unsafe (P := P) w ⟨b, i, none⟩ (isUns_spec hs) hu hj (e := e) (cells := L.length) (by simp [World.shape?, hb']) h2
      simp [execOp, ho, ha.eval hx, hr]
    · cases h1
  · cases h

/-- abi.NoEscape: the pointer as it is. -/
theorem val_noEscape {c : Call} {x : Operand} {g : Nat} {fn : Func} {v : Value} (ho : o.op = .call c) (hc : c.callee = .value x) (hx : ev σ x = some (.func (.func g) #[] #[])) (hv : evs σ c.args.toList = some [v])
    (hf : P.funcs[g]? = some fn) (hname : (fn.name == "runtime.NumGoroutine") = false) (hb : fn.body.isNone = true) (hn : Extern.findNext fn = none) (he : Extern.find fn = some Extern.AbiNoEscape.same) (w : World) : Val P n σ o w v := by
  intro ac ha
  have hargs := map_eq_toArray (ha.evals hv)
  have hr := run_callFunc_extern hf hname hb hn he #[v] w
  rw [Lib.run_noEscape] at hr
  simp only [Result.andThen] at hr
  simp [execOp, ho, resolve, hc, hargs, ha.eval hx, Deferred.ofValue, invoke, hr]

/-- A slice of bytes. -/
def byteSl (P : Program) (t e : Nat) : Bool :=
  match P.underlying t with
  | some (.slice e') => e' == e && (match P.info? e with
    | some i => i.size == 1 && i.bytes == 1 && (match i.zero with | some (.int .u8 z) => z == 0 | _ => false)
    | none => false)
  | _ => false
theorem byteSl_spec {t e : Nat} (h : byteSl P t e = true) : ∃ i, P.underlying t = some (.slice e) ∧ P.info? e = some i ∧ i.zero = some (.int .u8 0) ∧ i.size = 1 ∧ i.bytes = 1 := by
  unfold byteSl at h
  split at h
  · rename_i e' hu
    simp only [Bool.and_eq_true, beq_iff_eq] at h
    obtain ⟨rfl, h⟩ := h
    split at h
    · rename_i i hi
      simp only [Bool.and_eq_true, beq_iff_eq] at h
      obtain ⟨⟨h1, h2⟩, h3⟩ := h
      split at h3
      · rename_i z hz
        have : z = 0 := by simpa using h3
        subst this
        exact ⟨i, hu, hi, hz, h1, h2⟩
      · cases h3
    · cases h
  · cases h

theorem opTo_appStr {t u : TypeId} {s x : Operand} {ln : Nat} {K : Value → World → Prop} (base e : Nat) (xs : List Value) (l : List UInt8)
    (ho : o.op = .call { callee := .builtin .append, args := #[s, x], argTypes := #[t, u] }) (hs : ev σ s = some v) (hx : ev σ x = some (.string (str l)))
    (hP : byteSl P t e = true) (hu : isStr P u = true) (hown : w.ownsRow base e 1 v ln xs) (hb : ln + l.length ≤ 100000000) (hbase : base ≤ w.heap.size)
    (hK : ∀ v' w', w'.ownsRow base e 1 v' (ln + l.length) (xs ++ Lib.byteCells l) → w.grownBy w' v.ownBlock → K v' w') : OpTo P n σ o w K := by
  obtain ⟨i, h1, h2, h3, h4, h5⟩ := byteSl_spec hP
  have hsz := str_size l
  obtain ⟨v', w', hr, g1, g2, _⟩ := Lib.run_append_own_string (P := P) w base t u o.type e i h1 (isStr_spec hu) h2 h3 h4 h5 v ln xs hown (str l) (by unfold maxLen; omega) (by omega) hbase
  rw [hsz, Lib.strCells_eq, str_list] at g1
  refine opTo_run (w' := w') (v := v') (fun a ha => ?_) (hK _ _ g1 g2)
  simp [execOp, ho, resolve, invoke, builtin, ha.eval hs, ha.eval hx, hr]

/-- SliceData of a slice with room. -/
theorem val_sliceData {t : TypeId} {x : Operand} {ad : Addr} {ln cap : Nat} (ho : o.op = .call { callee := .builtin .unsafeSliceData, args := #[x], argTypes := #[t] }) (hx : ev σ x = some (.slice (some ad) ln cap)) (hc : cap ≠ 0) (w : World) : Val P n σ o w (.pointer (some ad)) := by
  intro ac ha
  have hr := Lib.run_unsafeSliceData_row (P := P) w #[t] o.type ad ln cap hc
  simp [execOp, ho, resolve, invoke, builtin, ha.eval hx, hr]
theorem val_sliceDataNil {t : TypeId} {x : Operand} {ln cap : Nat} (ho : o.op = .call { callee := .builtin .unsafeSliceData, args := #[x], argTypes := #[t] }) (hx : ev σ x = some (.slice none ln cap)) (w : World) : Val P n σ o w (.pointer none) := by
  intro ac ha
  have hr := Lib.run_unsafeSliceData_nil (P := P) w #[t] o.type ln cap
  simp [execOp, ho, resolve, invoke, builtin, ha.eval hx, hr]
theorem val_uStr0 {t u : TypeId} {x y : Operand} {q : Option Addr} (ho : o.op = .call { callee := .builtin .unsafeString, args := #[x, y], argTypes := #[t, u] }) (hx : ev σ x = some (.pointer q)) (hy : ev σ y = some (.int .i64 0)) (w : World) : Val P n σ o w (.string (str [])) := by
  intro ac ha
  have hr := Lib.run_unsafeString_none (P := P) w t u o.type q
  simp [execOp, ho, resolve, invoke, builtin, ha.eval hx, ha.eval hy, hr]
  rfl
def bytePtr (P : Program) (t e : Nat) : Bool :=
  match P.underlying t with
  | some (.pointer e') => e' == e && P.cellsOf e == 1
  | _ => false
/-- The string of a row of bytes: they are frozen in their row. -/
theorem opTo_uStr {t u : TypeId} {x y : Operand} {g e cap ln base : Nat} {K : Value → World → Prop} (l : List UInt8) (ho : o.op = .call { callee := .builtin .unsafeString, args := #[x, y], argTypes := #[t, u] }) (hx : ev σ x = some (.pointer (some ⟨g, 0, none⟩))) (hy : ev σ y = some (.int .i64 (l.length : Nat)))
    (hP : bytePtr P t e = true) (h0 : l ≠ []) (hown : w.ownsRow base e 1 (.slice (some ⟨g, 0, none⟩) ln cap) l.length (Lib.byteCells l)) (hK : K (.string (str l)) (w.freeze ⟨g, 0, none⟩ l.length)) : OpTo P n σ o w K := by
  unfold bytePtr at hP
  split at hP
  · rename_i e' hu
    simp only [Bool.and_eq_true, beq_iff_eq] at hP
    obtain ⟨rfl, hc⟩ := hP
    have hl0 : l.length ≠ 0 := by simpa using h0
    have hcells := hown.cells (g := g) rfl
    rcases hown.2 with ⟨hv, _⟩ | ⟨g', cap', cur, hv, _, hg, hnc, hcm, hcs, _⟩
    · cases hv
    · cases hv
      have hr := Lib.run_unsafeString_row (P := P) w t u o.type e' hu hc g cur.size (by simp [World.shape?, hg]) l h0 (by omega) (by unfold maxLen at hcm; omega) (fun j x hx => hcells j (.int .u8 x.toNat) (by simp [Lib.byteCells, hx]))
      refine opTo_run (w' := w.freeze ⟨g, 0, none⟩ l.length) (v := .string (str l)) (fun a ha => ?_) hK
      simp [execOp, ho, resolve, invoke, builtin, ha.eval hx, ha.eval hy, hr]
      rfl
  · cases hP
end

theorem byteCells_one (l : List UInt8) : ∀ u ∈ Lib.byteCells l, u.oneCell' = true := by
  intro u hu
  simp only [Lib.byteCells, List.mem_map] at hu
  obtain ⟨x, _, rfl⟩ := hu
  rfl
theorem keep_freeze {w0 w : World} {g m : Nat} (h : Keep [] w0 w) (hg : w0.heap.size ≤ g) : Keep [] w0 (w.freeze ⟨g, 0, none⟩ m) :=
  have hb := Lib.below_freeze (h.below fun k hk => by cases hk) (p := ⟨g, 0, none⟩) hg m
  ⟨hb.os, hb.tape, hb.output, hb.size, fun k hk _ => hb.block k hk⟩
end E
end Go.Proofs.YtbojicehfbeepadDoor

/- Plain mathematics of writing word by word: where blanks stand; what is no bracket. -/
namespace Go.Proofs.YtbojicehfbeepadDoor
set_option maxRecDepth 20000
set_option maxHeartbeats 4000000
namespace E
open Go.Lib

/-- A blank, if one is to stand ahead of the next word. -/
def sp (ap : Bool) : List UInt8 := if ap then [32] else []
abbrev TxS := List UInt8 × Bool
/-- One word more. -/
def wdT (s : TxS) (x : List UInt8) : TxS := (s.1 ++ ((if s.2 && !(x == [41]) then [32] else []) ++ x), !(x == [40]))
theorem wd_open (L : List UInt8) (ap : Bool) : wdT (L, ap) [40] = (L ++ (sp ap ++ [40]), false) := by cases ap <;> rfl
theorem wd_close (L : List UInt8) (ap : Bool) : wdT (L, ap) [41] = (L ++ [41], true) := by cases ap <;> rfl
/-- It is no bracket. -/
def Plain (x : List UInt8) : Prop := x ≠ [40] ∧ x ≠ [41]
theorem wd_word {x : List UInt8} (h : Plain x) (L : List UInt8) (ap : Bool) : wdT (L, ap) x = (L ++ (sp ap ++ x), true) := by
  unfold wdT sp
  have h1 : (x == [40]) = false := by simpa using h.1
  have h2 : (x == [41]) = false := by simpa using h.2
  simp [h1, h2]
theorem plain_word {k : Nat} : Plain (wordT k) := by
  unfold wordT
  repeat' split
  all_goals exact ⟨by decide, by decide⟩
theorem plain_verb {k : Nat} : Plain (verbT k) := by
  unfold verbT
  repeat' split
  all_goals exact ⟨by decide, by decide⟩
theorem plain_itoa (n : Int) : Plain (itoa n) := by
  obtain ⟨c, u, h, hc, _⟩ := itoa_form n
  have := (dig_plain hc).2.1
  constructor <;> (intro h2; rw [h] at h2; injection h2 with h3 _; subst h3; revert this; decide)
theorem plain_name {x : List UInt8} (h : nameB x = true) : Plain x := by
  have h1 := nameB_let h
  constructor <;> (intro h2; subst h2; revert h1; decide)
theorem plain_nameV {vs : List VarT} (hg : GoodV vs) {v : Nat} (hv : v < vs.length) : Plain (nameV vs v) := by
  unfold nameV
  rw [List.getD_eq_getElem?_getD, List.getElem?_eq_getElem hv, Option.getD_some]
  exact plain_name (hg _ (List.getElem_mem hv)).1
theorem wdT_len (s : TxS) (x : List UInt8) : (wdT s x).1.length ≤ s.1.length + x.length + 1 := by
  unfold wdT
  simp only [List.length_append]
  split <;> simp <;> omega
theorem foldl_take {α β : Type} (g : β → α → β) (z : β) {l : List α} {i : Nat} {x : α} (h : l[i]? = some x) : (l.take (i + 1)).foldl g z = g ((l.take i).foldl g z) x := by
  obtain ⟨hi, rfl⟩ := List.getElem?_eq_some_iff.1 h
  rw [List.take_succ_eq_append_getElem hi, List.foldl_append]
  rfl
/-- How long the words are at most, with a blank each. -/
def wsL (xs : List (List UInt8)) : Nat := (xs.map fun x => x.length + 1).sum
theorem fold_len : ∀ (xs : List (List UInt8)) (s : TxS), (xs.foldl wdT s).1.length ≤ s.1.length + wsL xs
  | [], s => by simp [wsL]
  | x :: r, s => by
    have h1 := wdT_len s x
    have h2 := fold_len r (wdT s x)
    simp only [List.foldl_cons, wsL, List.map_cons, List.sum_cons] at h2 ⊢
    omega
theorem wsL_take (xs : List (List UInt8)) (i : Nat) : wsL (xs.take i) ≤ wsL xs := by
  induction xs generalizing i with
  | nil => simp [wsL]
  | cons x r ih =>
    cases i with
    | zero => simp [wsL]
    | succ i =>
      have := ih i
      simp only [List.take_succ_cons, wsL, List.map_cons, List.sum_cons] at this ⊢
      omega
end E
end Go.Proofs.YtbojicehfbeepadDoor
