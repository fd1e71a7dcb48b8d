/- Several texts in one: RfC, RfE, LiftI, IdR, StrB, ThrO, IrA. -/
import Derived.Test.YtmdjgejahnmfmaeJ08
import Derived.Test.YtmdjgejahnmfmaeJ03
import Derived.Test.YtmdjgejahnmfmaeJ02
import Derived.Test.YtmdjgejahnmfmaeJ05
/- Contracts of the document's looking at statements, and of ProgramFault. -/
namespace Go.Proofs.Ytmdjgejahnmfmae
set_option maxRecDepth 20000
set_option maxHeartbeats 4000000
namespace E
open Go.Proofs

def x1 (op : Int) (e f : ET) : Bool := (needE op || zeroE e) && (needF op || zeroE f)
def x2 (op : Int) (lb lo : Nat) : Bool := (needB op || (lb : Int) == 0) && (needO op || (lo : Int) == 0)
theorem fits_x (op : Int) (e f : ET) (lb lo : Nat) : fitsS op e f lb lo = (x1 op e f && x2 op lb lo) := by
  unfold fitsS x1 x2
  cases needE op <;> cases zeroE e <;> cases needF op <;> cases zeroE f <;> cases needB op <;> cases ((lb : Int) == 0) <;> cases needO op <;> cases ((lo : Int) == 0) <;> rfl

/-- A statement in its box, and the looking beside it. -/
structure Lk (F : Nat → Prop) (w0 w : World) (j x nv capv : Nat) (av : Option Addr) (b : Value) (n : Nat) (c : Int) (sc : List Value) : Prop where
  hj : Blk w j (lkC (.slice av nv capv) b n c) tLk
  hx : Blk w x sc 72
  hk : Keep [j] w0 w

section
variable {F : Nat → Prop} {w0 w w' : World} {j x nv capv : Nat} {av : Option Addr} {b : Value} {n n' : Nat} {c c' : Int} {sc : List Value}
theorem Lk.turn (h : Lk F w0 w j x nv capv av b n c sc) (hj : Blk w' j (lkC (.slice av nv capv) b n' c') tLk) (hk : Keep [j] w w') : Lk F w0 w' j x nv capv av b n' c' sc :=
  ⟨hj, hk.blk h.hx (by simpa using h.hx.ne h.hj (by decide)), h.hk.tr hk⟩
theorem Lk.keep (h : Lk F w0 w j x nv capv av b n c sc) (hk : Keep [] w w') : Lk F w0 w' j x nv capv av b n c sc :=
  ⟨hk.blk h.hj (by simp), hk.blk h.hx (by simp), h.hk.tr (Keep.of0 hk)⟩
end

theorem lookList_ret {j nv capv : Nat} {av : Option Addr} {b : Value} : ∀ (s : Nat) (l : List ST), szSs l < s → szSs l ≤ 100000 → ∀ {F : Nat → Prop} {w : World} {xl : Value} (deep n : Nat) (c : Int), StmtsV F w xl l → In F w → ¬ F j → Blk w j (lkC (.slice av nv capv) b n c) tLk → (deep ≤ 13 ∨ (c ≠ 0 ∧ deep ≤ 14)) → n ≤ 151 → (c = 0 → n ≤ 150) →
    Ret Try.prog 47 [.pointer (some ⟨j, 0, none⟩), xl, .int .i64 (deep : Nat)] w fun r w' => r = .tuple #[] ∧ (∃ n' c', Blk w' j (lkC (.slice av nv capv) b n' c') tLk ∧ Tr (chkSs nv l deep) n c n' c') ∧ Keep [j] w w' := by
  intro s
  induction s with
  | zero => intro l hl; omega
  | succ s ih =>
    intro l hl hl3 F w xl deep n c h hF hFj hJ hdeep hn hn0
    obtain ⟨a, cap, rfl⟩ := h.form
    have hlen := szSs_len l
    refine ret_of 123 Try.func47 rfl rfl (by simp) ?_
    refine au ?_
    refine rn_ind (fun m σ w' => ∃ (i ni : Nat) (ci : Int), i ≤ l.length ∧ m = l.length - i ∧ σ = [(0, .pointer (some ⟨j, 0, none⟩)), (1, .slice a l.length cap), (2, .int .i64 (deep : Nat)), (6, .int .i64 (i : Nat))] ∧ Blk w' j (lkC (.slice av nv capv) b ni ci) tLk ∧ Keep [j] w w' ∧ ni ≤ 151 ∧ (ci = 0 → ni ≤ 150) ∧
      ((c = 0 ∧ ci = 0 ∧ chkSs nv (l.take i) deep n = .ok ni) ∨ (ci ≠ 0 ∧ ((c = 0 ∧ chkSs nv l deep n = .error ci) ∨ (c ≠ 0 ∧ ni = n ∧ ci = c))))) l.length _ ?_ ⟨0, n, c, by omega, by omega, rfl, hJ, Keep.refl _ _, hn, hn0, ?_⟩ ?_
    · exact ⟨rfl, rfl, rfl, rfl, trivial⟩
    · by_cases hc : c = 0
      · exact .inl ⟨hc, hc, by simp [chkSs]⟩
      · exact .inr ⟨hc, .inr ⟨hc, rfl, rfl⟩⟩
    rintro m σ w2 ih2 ⟨i, ni, ci, hi, rfl, rfl, hJ2, hk2, hni, hni0, hor⟩
    have hJ2' := hJ2
    unfold lkC at hJ2'
    have hend : (i = l.length ∨ ci ≠ 0) → Tr (chkSs nv l deep) n c ni ci := by
      intro hx
      rcases hor with ⟨hc, hci, hch⟩ | ⟨hci, hr⟩
      · have hil : i = l.length := by
          rcases hx with hx | hx
          · exact hx
          · exact absurd hci hx
        rw [hil, List.take_length] at hch
        exact ⟨fun h => absurd hc h, fun _ => ⟨fun q hq => (by rw [hch] at hq; injection hq with hq; exact ⟨hq, hci⟩), fun e he => (by rw [hch] at he; cases he)⟩, hni, hni0⟩
      · rcases hr with ⟨hc, hch⟩ | ⟨hc, h1, h2⟩
        · exact ⟨fun h => absurd hc h, fun _ => ⟨fun q hq => (by rw [hch] at hq; cases hq), fun e he => (by rw [hch] at he; injection he)⟩, hni, hni0⟩
        · exact ⟨fun _ => ⟨h1, h2⟩, fun h => absurd h hc, hni, hni0⟩
    refine au ?_
    by_cases hlt : i < l.length
    · by_cases hcz : ci = 0
      · subst hcz
        obtain ⟨hc0, hch⟩ : c = 0 ∧ chkSs nv (l.take i) deep n = .ok ni := by
          rcases hor with ⟨hc, _, hch⟩ | ⟨hci, _⟩
          · exact ⟨hc, hch⟩
          · exact absurd rfl hci
        have hni150 := hni0 rfl
        have hd13 : deep ≤ 13 := hdeep.elim id fun h => absurd hc0 h.1
        clear hend hor hdeep hn0
        have hget : l[i]? = some l[i] := List.getElem?_eq_getElem hlt
        have hsz := szSs_at hget
        obtain ⟨op, v, e, f, lb, lo, hs⟩ : ∃ op v e f lb lo, l[i] = ST.mk op v e f lb lo := by cases l[i]; exact ⟨_, _, _, _, _, _, rfl⟩
        rw [hs] at hget hsz
        simp only [szS] at hsz
        have hat := chkSs_at hget hch
        obtain ⟨bb, q, cap', ce, cf, bv, ov, hvv, hst⟩ := (h.keep hk2 (stays_but hF hFj)).stmtAt hget
        cases hvv
        have hF2 := hF.keep hk2
        obtain ⟨e0, e1, e2, e3, rfl⟩ := list4 hst.he.length
        obtain ⟨f0, f1, f2, f3, rfl⟩ := list4 hst.hf.length
        obtain ⟨ab, capb, rfl⟩ := hst.hb.form
        obtain ⟨ao, capo, rfl⟩ := hst.ho.form
        refine aub ?_
        refine pl_val _ rfl rfl (val_index i hT rfl rfl rfl rfl rfl hlt w2) ?_
        refine pl_val _ rfl rfl (val_load [.int .i64 op, .int .i64 v, e0, e1, e2, e3, f0, f1, f2, f3, .slice ab lb.length capb, .slice ao lo.length capo] hT rfl rfl rfl hst.whole) ?_
        refine pl_op rfl rfl (opTo_allocN _ rfl zero_stmt ?_)
        intro w3 x hx3 hs3 hk3 hX3
        refine pl_op rfl rfl (opTo_storeN _ rfl rfl rfl rfl (by kernel_rfl) hX3 (by simp [stmtZ]) hst.stmt.one ?_)
        intro w4 hs4 hk4 hX4
        rw [splice_whole (by rfl)] at hX4
        have hk24 : Keep [] w2 w4 := hk3.trB hk4 (by omega)
        have hL4 : Lk F w2 w4 j x nv capv av b ni 0 [.int .i64 op, .int .i64 v, e0, e1, e2, e3, f0, f1, f2, f3, .slice ab lb.length capb, .slice ao lo.length capo] := ⟨hk24.blk hJ2 (by simp), hX4, Keep.of0 hk24⟩
        clear hk3 hk4 hX3 hX4 hk24
        refine au ?_
        refine pl_op rfl rfl (opTo_call rfl rfl rfl rfl (by decide +kernel) ((head_ret hL4.hj (deep : Nat) (by omega)).mono ?_))
        rintro v5 w5 ⟨rfl, hJ5, hk5⟩
        have hL5 := hL4.turn hJ5 hk5
        have hst2 := stays_but hF2 hFj
        refine pl_nil ?_
        refine rn_seq ?_
        refine rn_with (fun σ' w' => ∃ c6, c6 = badC (!knownS op) (badC (decide (ni + 1 > 150)) (badC (decide ((deep : Int) > 12)) 0 4) 3) 2 ∧ Lk F w2 w' j x nv capv av b (ni + 1) c6 [.int .i64 op, .int .i64 v, e0, e1, e2, e3, f0, f1, f2, f3, .slice ab lb.length capb, .slice ao lo.length capo] ∧ Sub [(0, .pointer (some ⟨j, 0, none⟩)), (1, .slice (some ⟨bb, q, none⟩) l.length cap), (2, .int .i64 (deep : Nat)), (6, .int .i64 (i : Nat)), (7, .pointer (some ⟨x, 0, none⟩))] σ') ?_ ?_
        · rintro σ' w6 ⟨c6, hc6, hL6, hsub⟩
          refine rn_sub hsub ?_
          refine rn_seq ?_
          refine rn_with (fun σ' w' => ∃ c7, c7 = badC (!x1 op e f) c6 5 ∧ Lk F w2 w' j x nv capv av b (ni + 1) c7 [.int .i64 op, .int .i64 v, e0, e1, e2, e3, f0, f1, f2, f3, .slice ab lb.length capb, .slice ao lo.length capo] ∧ Sub [(0, .pointer (some ⟨j, 0, none⟩)), (1, .slice (some ⟨bb, q, none⟩) l.length cap), (2, .int .i64 (deep : Nat)), (6, .int .i64 (i : Nat)), (7, .pointer (some ⟨x, 0, none⟩))] σ') ?_ ?_
          · rintro σ' w7 ⟨c7, hc7, hL7, hsub⟩
            refine rn_sub hsub ?_
            refine rn_seq ?_
            refine rn_with (fun σ' w' => ∃ c8, c8 = badC (!x2 op lb.length lo.length) c7 5 ∧ Lk F w2 w' j x nv capv av b (ni + 1) c8 [.int .i64 op, .int .i64 v, e0, e1, e2, e3, f0, f1, f2, f3, .slice ab lb.length capb, .slice ao lo.length capo] ∧ Sub [(0, .pointer (some ⟨j, 0, none⟩)), (1, .slice (some ⟨bb, q, none⟩) l.length cap), (2, .int .i64 (deep : Nat)), (6, .int .i64 (i : Nat)), (7, .pointer (some ⟨x, 0, none⟩))] σ') ?_ ?_
            · rintro σ' w8 ⟨c8, hc8, hL8, hsub⟩
              refine rn_sub hsub ?_
              refine au ?_
              refine rn_draw (fun w' => Keep [] w8 w') [6] hMix ?_
              have hS : Keep [] w8 w8.drew := (Keep.refl _ _).drew
              generalize w8.drew = w9 at *
              refine tk 0 ?_
              refine tk 1 ?_
              refine dr_val 2 _ rfl (by decide +kernel) rfl rfl (fun w9 hS9 => val_load1 hT rfl rfl rfl ((hS9.blk hL8.hx (by simp)).cell rfl)) hS ?_
              refine tk 3 ?_
              refine dr_val 4 _ rfl (by decide +kernel) rfl rfl (fun w9 hS9 => val_load1 hT rfl rfl rfl ((hS9.blk hL8.hx (by simp)).cell rfl)) hS ?_
              have hN := needed_ret op 118 w9
              rw [(needC_all op).2.2.1] at hN
              refine dr_op 5 rfl (by decide +kernel) rfl rfl (opTo_call rfl rfl rfl rfl (by decide +kernel) (hN.mono ?_))
              rintro v10 w10 ⟨rfl, rfl⟩
              refine ⟨fun _ => hS, ?_⟩
              refine dr_op 6 rfl (by decide +kernel) rfl rfl (opTo_call rfl rfl rfl rfl (by decide +kernel) ((variable_ret (hS.blk hL8.hj (by simp)) v (needV op)).mono ?_))
              rintro v11 w11 ⟨rfl, hJ11, hk11⟩
              refine ⟨fun h => absurd h (by simp), ?_⟩
              refine dr_done (by decide +kernel) ?_
              have hck : varC nv v (needV op) c8 = lookK nv ni (deep : Nat) (knownS op) (fitsS op e f lb.length lo.length) (needV op) v := by
                rw [hc8, hc7, hc6, fits_x]
                exact look_chain nv ni (deep : Nat) (knownS op) (x1 op e f) (x2 op lb.length lo.length) (needV op) v _ _ _ rfl (by cases x1 op e f <;> cases x2 op lb.length lo.length <;> rfl)
              have hL11 := (hL8.keep hS).turn hJ11 hk11
              generalize varC nv v (needV op) c8 = cc at *
              clear hc6 hc7 hc8 hL4 hL5 hL6 hL7 hL8 hS hJ5 hk5 hJ11 hk11 hN hJ2'
              have hcc0 : cc = 0 → ni + 1 ≤ 150 ∧ deep ≤ 12 := fun h => by have := look_room (hck.symm.trans h); omega
              -- E
              refine rn_seq ?_
              refine rn_with (fun σ' w' => ∃ n1 c1, Tr (fun k => if needE op then chkE nv e (deep + 1) k else .ok k) (ni + 1) cc n1 c1 ∧ Lk F w2 w' j x nv capv av b n1 c1 [.int .i64 op, .int .i64 v, e0, e1, e2, e3, f0, f1, f2, f3, .slice ab lb.length capb, .slice ao lo.length capo] ∧ Sub [(0, .pointer (some ⟨j, 0, none⟩)), (1, .slice (some ⟨bb, q, none⟩) l.length cap), (2, .int .i64 (deep : Nat)), (6, .int .i64 (i : Nat)), (7, .pointer (some ⟨x, 0, none⟩))] σ') ?_ ?_
              · rintro σ' w12 ⟨n1, c1, hT1, hL12, hsub⟩
                refine rn_sub hsub ?_
                refine rn_seq ?_
                refine rn_with (fun σ' w' => ∃ n2 c2, Tr (fun k => if needF op then chkE nv f (deep + 1) k else .ok k) n1 c1 n2 c2 ∧ Lk F w2 w' j x nv capv av b n2 c2 [.int .i64 op, .int .i64 v, e0, e1, e2, e3, f0, f1, f2, f3, .slice ab lb.length capb, .slice ao lo.length capo] ∧ Sub [(0, .pointer (some ⟨j, 0, none⟩)), (1, .slice (some ⟨bb, q, none⟩) l.length cap), (2, .int .i64 (deep : Nat)), (6, .int .i64 (i : Nat)), (7, .pointer (some ⟨x, 0, none⟩))] σ') ?_ ?_
                · rintro σ' w13 ⟨n2, c2, hT2, hL13, hsub⟩
                  refine rn_sub hsub ?_
                  have hd2 : (deep + 1 ≤ 13 ∨ (c2 ≠ 0 ∧ deep + 1 ≤ 14)) := by
                    by_cases hz : cc = 0
                    · exact .inl (by have := hcc0 hz; omega)
                    · have h1 := hT1.1 hz
                      have h2 := hT2.1 (by rw [h1.2]; exact hz)
                      exact .inr ⟨by rw [h2.2, h1.2]; exact hz, by omega⟩
                  refine au ?_
                  refine pl_val _ rfl rfl (val_load1 hT rfl rfl rfl (hL13.hx.cell rfl)) ?_
                  refine au ?_
                  refine pl_num (((deep + 1 : Nat) : Int)) rfl rfl rfl rfl rfl (by simp only [ariP]; omega) ?_
                  refine pl_op rfl rfl (opTo_call rfl rfl rfl rfl (by decide +kernel) ((ih lb (by omega) (by omega) (deep + 1) n2 c2 (hst.hb.keep hL13.hk hst2) (hF2.keep hL13.hk) hFj hL13.hj hd2 hT2.2.2.1 hT2.2.2.2).mono ?_))
                  rintro v14 w14 ⟨rfl, ⟨n3, c3, hJ14, hT3⟩, hk14⟩
                  have hL14 := hL13.turn hJ14 hk14
                  have hd3 : (deep + 1 ≤ 13 ∨ (c3 ≠ 0 ∧ deep + 1 ≤ 14)) := by
                    rcases hd2 with h | ⟨h, h'⟩
                    · exact .inl h
                    · exact .inr ⟨by rw [(hT3.1 h).2]; exact h, h'⟩
                  refine au ?_
                  refine pl_val _ rfl rfl (val_load1 hT rfl rfl rfl (hL14.hx.cell rfl)) ?_
                  refine au ?_
                  refine pl_num (((deep + 1 : Nat) : Int)) rfl rfl rfl rfl rfl (by simp only [ariP]; omega) ?_
                  refine pl_op rfl rfl (opTo_call rfl rfl rfl rfl (by decide +kernel) ((ih lo (by omega) (by omega) (deep + 1) n3 c3 (hst.ho.keep hL14.hk hst2) (hF2.keep hL14.hk) hFj hL14.hj hd3 hT3.2.2.1 hT3.2.2.2).mono ?_))
                  rintro v15 w15 ⟨rfl, ⟨n4, c4, hJ15, hT4⟩, hk15⟩
                  have hL15 := hL14.turn hJ15 hk15
                  refine au ?_
                  refine pl_num (((i + 1 : Nat) : Int)) rfl rfl rfl rfl rfl (by simp only [ariP]; omega) ?_
                  refine au ?_
                  have hTT := Tr.seq hT1 (coded_ite (codedE nv e _ _) (coded_ok _)) (Tr.seq hT2 (coded_ite (codedE nv f _ _) (coded_ok _)) (Tr.seq hT3 (codedSs nv lb _ _) hT4))
                  have hkw15 : Keep [j] w w15 := hk2.tr hL15.hk
                  refine rn_sub ?_ (ih2 (l.length - (i + 1)) [(0, .pointer (some ⟨j, 0, none⟩)), (1, .slice (some ⟨bb, q, none⟩) l.length cap), (2, .int .i64 (deep : Nat)), (6, .int .i64 ((i + 1 : Nat) : Int))] w15 (by omega)
                    ⟨i + 1, n4, c4, by omega, rfl, rfl, hL15.hj, hkw15, hTT.2.2.1, hTT.2.2.2, ?_⟩)
                  · exact ⟨rfl, rfl, rfl, rfl, trivial⟩
                  · by_cases hz : cc = 0
                    · have hS : chkS nv (.mk op v e f lb lo) deep ni = _ := chkS_look nv deep ni op v e f lb lo
                      rw [← hck, if_neg (by simp [hz])] at hS
                      have ht := hTT.2.1 hz
                      cases hxs : chkS nv (.mk op v e f lb lo) deep ni with
                      | ok q' =>
                        obtain ⟨rfl, rfl⟩ := ht.1 q' (by rw [← hxs, hS])
                        exact .inl ⟨hc0, rfl, by rw [hat.1, hxs]⟩
                      | error er =>
                        have := ht.2 er (by rw [← hxs, hS])
                        subst this
                        exact .inr ⟨codedS nv _ _ _ _ hxs, .inl ⟨hc0, hat.2 _ hxs⟩⟩
                    · have ht := hTT.1 hz
                      have hxs : chkS nv (.mk op v e f lb lo) deep ni = .error cc := by rw [chkS_look, ← hck, if_pos hz]
                      rw [ht.2]
                      exact .inr ⟨hz, .inl ⟨hc0, hat.2 _ hxs⟩⟩
                · intro fin
                  refine au ?_
                  refine pl_val _ rfl rfl (val_load1 hT rfl rfl rfl (hL12.hx.cell rfl)) ?_
                  have hN := needed_ret op 102 w12
                  rw [(needC_all op).2.1] at hN
                  refine pl_op rfl rfl (opTo_call rfl rfl rfl rfl (by decide +kernel) (hN.mono ?_))
                  rintro v13 w13 ⟨rfl, rfl⟩
                  cases hbf : needF op with
                  | false =>
                    refine pl_nil ?_
                    refine rn_false rfl ?_
                    refine rn_skip ?_
                    exact fin _ _ ⟨n1, c1, by simp only [hbf]; exact Tr.id hT1.2.2.1 hT1.2.2.2, hL12, rfl, rfl, rfl, rfl, rfl, trivial⟩
                  | true =>
                    refine pl_nil ?_
                    refine rn_true rfl ?_
                    refine rn_plain ?_
                    refine au ?_
                    refine pl_val _ rfl rfl (val_load [f0, f1, f2, f3] hT rfl rfl rfl (hL12.hx.range (by rfl))) ?_
                    refine au ?_
                    refine pl_num (((deep + 1 : Nat) : Int)) rfl rfl rfl rfl rfl (by simp only [ariP]; omega) ?_
                    refine pl_op rfl rfl (opTo_call rfl rfl rfl rfl (by decide +kernel) ((lookExpr_ret _ f (Nat.le_refl _) (by omega) (deep + 1) n1 c1 (hst.hf.keep hL12.hk hst2) (hF2.keep hL12.hk) hFj hL12.hj (by omega) hT1.2.2.1 hT1.2.2.2).mono ?_))
                    rintro v14 w14 ⟨rfl, ⟨n2, c2, hJ14, hT2⟩, hk14⟩
                    refine pl_nil ?_
                    exact fin _ _ ⟨n2, c2, by simp only [hbf]; exact hT2, hL12.turn hJ14 hk14, rfl, rfl, rfl, rfl, rfl, trivial⟩
              · intro fin
                refine au ?_
                refine pl_val _ rfl rfl (val_load1 hT rfl rfl rfl (hL11.hx.cell rfl)) ?_
                have hN := needed_ret op 101 w11
                rw [(needC_all op).1] at hN
                refine pl_op rfl rfl (opTo_call rfl rfl rfl rfl (by decide +kernel) (hN.mono ?_))
                rintro v13 w13 ⟨rfl, rfl⟩
                cases hbe : needE op with
                | false =>
                  refine pl_nil ?_
                  refine rn_false rfl ?_
                  refine rn_skip ?_
                  exact fin _ _ ⟨ni + 1, cc, by simp only [hbe]; exact Tr.id (by omega) (fun h => (hcc0 h).1), hL11, rfl, rfl, rfl, rfl, rfl, trivial⟩
                | true =>
                  refine pl_nil ?_
                  refine rn_true rfl ?_
                  refine rn_plain ?_
                  refine au ?_
                  refine pl_val _ rfl rfl (val_load [e0, e1, e2, e3] hT rfl rfl rfl (hL11.hx.range (by rfl))) ?_
                  refine au ?_
                  refine pl_num (((deep + 1 : Nat) : Int)) rfl rfl rfl rfl rfl (by simp only [ariP]; omega) ?_
                  refine pl_op rfl rfl (opTo_call rfl rfl rfl rfl (by decide +kernel) ((lookExpr_ret _ e (Nat.le_refl _) (by omega) (deep + 1) (ni + 1) cc (hst.he.keep hL11.hk hst2) (hF2.keep hL11.hk) hFj hL11.hj (by omega) (by omega) (fun h => (hcc0 h).1)).mono ?_))
                  rintro v14 w14 ⟨rfl, ⟨n2, c2, hJ14, hT2⟩, hk14⟩
                  refine pl_nil ?_
                  exact fin _ _ ⟨n2, c2, by simp only [hbe]; exact hT2, hL11.turn hJ14 hk14, rfl, rfl, rfl, rfl, rfl, trivial⟩
            · intro fin
              refine au ?_
              refine pl_val _ rfl rfl (val_load1 hT rfl rfl rfl (hL7.hx.cell rfl)) ?_
              have hN := needed_ret op 98 w7
              rw [(needC_all op).2.2.2.1] at hN
              refine pl_op rfl rfl (opTo_call rfl rfl rfl rfl (by decide +kernel) (hN.mono ?_))
              rintro v8 w8 ⟨rfl, rfl⟩
              have hX8 := hL7.hx
              have hN2 := needed_ret op 111 w8
              rw [(needC_all op).2.2.2.2] at hN2
              have stop : ∀ (is : Bool), is = !x2 op lb.length lo.length → ∀ (σ : Env), True → Ret Try.prog 78 [.pointer (some ⟨j, 0, none⟩), .bool is, .int .i64 5] w8 fun r w' => r = .tuple #[] ∧ Lk F w2 w' j x nv capv av b (ni + 1) (badC (!x2 op lb.length lo.length) c7 5) [.int .i64 op, .int .i64 v, e0, e1, e2, e3, f0, f1, f2, f3, .slice ab lb.length capb, .slice ao lo.length capo] := fun is his σ _ => by
                subst his
                exact (bad_ret hL7.hj _ 5).mono fun r w' ⟨h1, h2, h3⟩ => ⟨h1, hL7.turn h2 h3⟩
              cases hbb : needB op with
              | true =>
                refine aub ?_
                refine pl_op rfl rfl (opTo_call rfl rfl rfl rfl (by decide +kernel) (hN2.mono ?_))
                rintro v9 w9 ⟨rfl, rfl⟩
                cases hbo : needO op with
                | true =>
                  refine au ?_
                  refine pl_op rfl rfl (opTo_call rfl rfl rfl rfl (by decide +kernel) ((stop false (by simp [x2, hbb, hbo]) [] trivial).mono ?_))
                  rintro v10 w10 ⟨rfl, hL10⟩
                  refine pl_nil ?_
                  exact fin _ _ ⟨_, rfl, hL10, rfl, rfl, rfl, rfl, rfl, trivial⟩
                | false =>
                  refine aub ?_
                  refine pl_val (.bool (!x2 op lb.length lo.length)) rfl rfl (val_int .i64 _ _ _ rfl rfl rfl (by simp only [intOp, x2, hbb, hbo]; congr 2; rw [Bool.eq_iff_iff]; simp [List.length_pos_iff]) _) ?_
                  refine au ?_
                  refine pl_op rfl rfl (opTo_call rfl rfl rfl rfl (by decide +kernel) ((stop _ rfl [] trivial).mono ?_))
                  rintro v10 w10 ⟨rfl, hL10⟩
                  refine pl_nil ?_
                  exact fin _ _ ⟨_, rfl, hL10, rfl, rfl, rfl, rfl, rfl, trivial⟩
              | false =>
                by_cases hlb : lb.length = 0
                · refine aub ?_
                  refine pl_op rfl rfl (opTo_call rfl rfl rfl rfl (by decide +kernel) (hN2.mono ?_))
                  rintro v9 w9 ⟨rfl, rfl⟩
                  cases hbo : needO op with
                  | true =>
                    refine au ?_
                    refine pl_op rfl rfl (opTo_call rfl rfl rfl rfl (by decide +kernel) ((stop false (by simp [x2, hbb, hbo, hlb]) [] trivial).mono ?_))
                    rintro v10 w10 ⟨rfl, hL10⟩
                    refine pl_nil ?_
                    exact fin _ _ ⟨_, rfl, hL10, rfl, rfl, rfl, rfl, rfl, trivial⟩
                  | false =>
                    refine aub ?_
                    refine pl_val (.bool (!x2 op lb.length lo.length)) rfl rfl (val_int .i64 _ _ _ rfl rfl rfl (by simp only [intOp, x2, hbb, hbo, hlb]; congr 2; rw [Bool.eq_iff_iff]; simp [List.length_pos_iff]) _) ?_
                    refine au ?_
                    refine pl_op rfl rfl (opTo_call rfl rfl rfl rfl (by decide +kernel) ((stop _ rfl [] trivial).mono ?_))
                    rintro v10 w10 ⟨rfl, hL10⟩
                    refine pl_nil ?_
                    exact fin _ _ ⟨_, rfl, hL10, rfl, rfl, rfl, rfl, rfl, trivial⟩
                · refine aub ?_
                  refine pl_op rfl rfl (opTo_call rfl rfl rfl rfl (by decide +kernel) ((stop true (by simp [x2, hbb]; exact .inl (fun h => by subst h; simp at hlb)) [] trivial).mono ?_))
                  rintro v10 w10 ⟨rfl, hL10⟩
                  refine pl_nil ?_
                  exact fin _ _ ⟨_, rfl, hL10, rfl, rfl, rfl, rfl, rfl, trivial⟩
          · intro fin
            refine au ?_
            refine pl_val _ rfl rfl (val_load1 hT rfl rfl rfl (hL6.hx.cell rfl)) ?_
            have hN := needed_ret op 101 w6
            rw [(needC_all op).1] at hN
            refine pl_op rfl rfl (opTo_call rfl rfl rfl rfl (by decide +kernel) (hN.mono ?_))
            rintro v8 w8 ⟨rfl, rfl⟩
            have stop : ∀ (w9 : World) (is : Bool), is = !x1 op e f → Keep [] w8 w9 → Ret Try.prog 78 [.pointer (some ⟨j, 0, none⟩), .bool is, .int .i64 5] w9 fun r w' => r = .tuple #[] ∧ Lk F w2 w' j x nv capv av b (ni + 1) (badC (!x1 op e f) c6 5) [.int .i64 op, .int .i64 v, e0, e1, e2, e3, f0, f1, f2, f3, .slice ab lb.length capb, .slice ao lo.length capo] := fun w9 is his hk9 => by
              subst his
              exact (bad_ret (hL6.keep hk9).hj _ 5).mono fun r w' ⟨h1, h2, h3⟩ => ⟨h1, (hL6.keep hk9).turn h2 h3⟩
            have hX8 := hL6.hx
            cases hbe : needE op with
            | true =>
              refine aub ?_
              have hN2 := needed_ret op 102 w8
              rw [(needC_all op).2.1] at hN2
              refine pl_op rfl rfl (opTo_call rfl rfl rfl rfl (by decide +kernel) (hN2.mono ?_))
              rintro v9 w9 ⟨rfl, rfl⟩
              cases hbf : needF op with
              | true =>
                refine au ?_
                refine pl_op rfl rfl (opTo_call rfl rfl rfl rfl (by decide +kernel) ((stop _ false (by simp [x1, hbe, hbf]) (Keep.refl _ _)).mono ?_))
                rintro v10 w10 ⟨rfl, hL10⟩
                refine pl_nil ?_
                exact fin _ _ ⟨_, rfl, hL10, rfl, rfl, rfl, rfl, rfl, trivial⟩
              | false =>
                refine au ?_
                refine pl_val _ rfl rfl (val_load [f0, f1, f2, f3] hT rfl rfl rfl (hX8.range (by rfl))) ?_
                refine pl_op rfl rfl (opTo_call rfl rfl rfl rfl (by decide +kernel) ((zeroExpr_ret (hst.hf.keep hL6.hk hst2)).mono ?_))
                rintro v10 w10 ⟨rfl, hk10⟩
                refine au ?_
                refine pl_op rfl rfl (opTo_call rfl rfl rfl rfl (by decide +kernel) ((stop _ _ (by simp [x1, hbe, hbf]) hk10).mono ?_))
                rintro v11 w11 ⟨rfl, hL11⟩
                refine pl_nil ?_
                exact fin _ _ ⟨_, rfl, hL11, rfl, rfl, rfl, rfl, rfl, trivial⟩
            | false =>
              refine au ?_
              refine pl_val _ rfl rfl (val_load [e0, e1, e2, e3] hT rfl rfl rfl (hX8.range (by rfl))) ?_
              refine pl_op rfl rfl (opTo_call rfl rfl rfl rfl (by decide +kernel) ((zeroExpr_ret (hst.he.keep hL6.hk hst2)).mono ?_))
              rintro v9 w9 ⟨rfl, hk9⟩
              cases hz1 : zeroE e with
              | false =>
                refine au ?_
                refine pl_op rfl rfl (opTo_call rfl rfl rfl rfl (by decide +kernel) ((stop _ true (by simp [x1, hbe, hz1]) hk9).mono ?_))
                rintro v11 w11 ⟨rfl, hL11⟩
                refine pl_nil ?_
                exact fin _ _ ⟨_, rfl, hL11, rfl, rfl, rfl, rfl, rfl, trivial⟩
              | true =>
                have hX9 := hk9.blk hX8 (by simp)
                refine aub ?_
                have hN2 := needed_ret op 102 w9
                rw [(needC_all op).2.1] at hN2
                refine pl_op rfl rfl (opTo_call rfl rfl rfl rfl (by decide +kernel) (hN2.mono ?_))
                rintro v10 w10 ⟨rfl, rfl⟩
                cases hbf : needF op with
                | true =>
                  refine au ?_
                  refine pl_op rfl rfl (opTo_call rfl rfl rfl rfl (by decide +kernel) ((stop _ false (by simp [x1, hbe, hbf, hz1]) hk9).mono ?_))
                  rintro v11 w11 ⟨rfl, hL11⟩
                  refine pl_nil ?_
                  exact fin _ _ ⟨_, rfl, hL11, rfl, rfl, rfl, rfl, rfl, trivial⟩
                | false =>
                  refine au ?_
                  refine pl_val _ rfl rfl (val_load [f0, f1, f2, f3] hT rfl rfl rfl (hX9.range (by rfl))) ?_
                  refine pl_op rfl rfl (opTo_call rfl rfl rfl rfl (by decide +kernel) ((zeroExpr_ret ((hst.hf.keep hL6.hk hst2).keep hk9 (hF2.keep hL6.hk).stays)).mono ?_))
                  rintro v11 w11 ⟨rfl, hk11⟩
                  refine au ?_
                  refine pl_op rfl rfl (opTo_call rfl rfl rfl rfl (by decide +kernel) ((stop _ _ (by simp [x1, hbe, hbf, hz1]) (hk9.tr hk11)).mono ?_))
                  rintro v12 w12 ⟨rfl, hL12⟩
                  refine pl_nil ?_
                  exact fin _ _ ⟨_, rfl, hL12, rfl, rfl, rfl, rfl, rfl, trivial⟩
        · intro fin
          have hX5 := hL5.hx
          by_cases h1 : op < 1
          · refine aub ?_
            refine pl_op rfl rfl (opTo_call rfl rfl rfl rfl (by decide +kernel) ((bad_ret hL5.hj true 2).mono ?_))
            rintro v6 w6 ⟨rfl, hJ6, hk6⟩
            refine pl_nil ?_
            exact fin _ _ ⟨_, by simp [knownS, show ¬ 1 ≤ op by omega], hL5.turn hJ6 hk6, rfl, rfl, rfl, rfl, rfl, trivial⟩
          · refine aub ?_
            refine pl_val (.bool (!knownS op)) rfl rfl (val_int .i64 _ _ _ rfl rfl rfl (by simp only [intOp, knownS]; congr 2; rw [Bool.eq_iff_iff]; simp; omega) w5) ?_
            refine au ?_
            refine pl_op rfl rfl (opTo_call rfl rfl rfl rfl (by decide +kernel) ((bad_ret hL5.hj (!knownS op) 2).mono ?_))
            rintro v6 w6 ⟨rfl, hJ6, hk6⟩
            refine pl_nil ?_
            exact fin _ _ ⟨_, rfl, hL5.turn hJ6 hk6, rfl, rfl, rfl, rfl, rfl, trivial⟩
      · refine aub ?_
        exact rn_end Try.func47 (.inr (.inl ⟨rfl, rfl⟩)) ⟨rfl, ⟨ni, ci, hJ2, hend (.inr hcz)⟩, hk2⟩
    · refine nay ?_
      refine au ?_
      exact rn_end Try.func47 (.inr (.inl ⟨rfl, rfl⟩)) ⟨rfl, ⟨ni, ci, hJ2, hend (.inl (by omega))⟩, hk2⟩
end E
end Go.Proofs.Ytmdjgejahnmfmae

/- Contracts of the document's ProgramFault and Same. -/
namespace Go.Proofs.Ytmdjgejahnmfmae
set_option maxRecDepth 20000
set_option maxHeartbeats 4000000
namespace E
open Go.Proofs

theorem built_looking (a b : Option Addr) (m c m' c' : Nat) : Try.prog.built tLk [(0, .agg #[.slice a m c, .slice b m' c'])] = some [Value.slice a m c, .slice b m' c', .int .i64 0, .int .i64 0].toArray := by kernel_rfl

theorem refFault_ret {F : Nat → Prop} {w : World} {x : Value} {vs : List VarT} {body : List ST} (h : ProgV F w x vs body) (hF : In F w) (hnm : ∀ y ∈ vs, y.1.size ≤ 100000) (hsz : szSs body ≤ 100000) :
    Ret Try.prog 29 [x] w fun r w' => r = .int .i64 (progFault vs body) ∧ Keep [] w w' := by
  obtain ⟨vv, bv, rfl, hv, hb⟩ := h
  obtain ⟨av, capv, rfl⟩ := hv.form
  obtain ⟨ab, capb, rfl⟩ := hb.form
  refine ret_of 72 Try.func29 rfl rfl (by simp) ?_
  refine au ?_
  refine pl_op rfl rfl (opTo_boxN [.slice av vs.length capv, .slice ab body.length capb] rfl rfl rfl ?_)
  intro w1 p hp hs1 hk1 hB1
  refine au ?_
  refine pl_val _ rfl rfl (val_load1 hT rfl rfl rfl (hB1.cell rfl)) ?_
  refine au ?_
  unfold progFault
  by_cases h8 : vs.length > 8
  · rw [if_pos h8]
    refine ye ?_
    refine au ?_
    exact rn_ret Try.func29 (.inl ⟨_, rfl, rfl⟩) ⟨rfl, hk1⟩
  rw [if_neg h8]
  refine nay ?_
  refine au ?_
  refine rn_ind (fun m σ w' => ∃ i : Nat, i ≤ vs.length ∧ m = vs.length - i ∧ σ = [(1, .pointer (some ⟨p, 0, none⟩)), (3, .int .i64 (sumV (vs.take i))), (4, .int .i64 (i : Nat))] ∧
    chkV [] 0 vs = chkV ((vs.take i).map (·.1)) (sumV (vs.take i)) (vs.drop i) ∧ 0 ≤ sumV (vs.take i) ∧ sumV (vs.take i) ≤ 48 ∧ Blk w' p [.slice av vs.length capv, .slice ab body.length capb] 25 ∧ Keep [] w w') vs.length _ ?_ ⟨0, by omega, by omega, rfl, by simp [sumV], by simp [sumV], by simp [sumV], hB1, hk1⟩ ?_
  · exact ⟨rfl, rfl, rfl, trivial⟩
  rintro m σ w2 ih ⟨i, hi, rfl, rfl, hch, hs0, hs48, hB2, hk2⟩
  refine au ?_
  refine pl_val _ rfl rfl (val_load1 hT rfl rfl rfl (hB2.cell rfl)) ?_
  refine au ?_
  by_cases hlt : i < vs.length
  · refine ye ?_
    refine au ?_
    refine pl_val _ rfl rfl (val_load1 hT rfl rfl rfl (hB2.cell rfl)) ?_
    refine au ?_
    have hget : vs[i]? = some vs[i] := List.getElem?_eq_getElem hlt
    have hnmi := hnm vs[i] (List.getElem_mem _)
    obtain ⟨nm, sz, hnz⟩ : ∃ nm sz, vs[i] = (nm, sz) := ⟨_, _, rfl⟩
    rw [hnz] at hget hnmi
    replace hnmi : nm.size ≤ 100000 := hnmi
    rw [chkV_at hget] at hch
    have hsu : sumV (vs.take (i + 1)) = sumV (vs.take i) + sz := sumV_take_succ hget
    replace hch : chkV [] 0 vs = if nameOk nm = false then 8 else if (vs.take i).any (sameName (nm, sz)) = true then 9 else if sz < 1 ∨ sz > 48 ∨ sumV (vs.take i) + sz > 48 then 1 else chkV ((vs.take (i + 1)).map (·.1)) (sumV (vs.take (i + 1))) (vs.drop (i + 1)) := hch
    obtain ⟨bb, q, cap', hvv, hFb, hra⟩ := (hv.keep hk2 hF.stays).at hget
    cases hvv
    refine pl_val _ rfl rfl (val_index i hT rfl rfl rfl rfl rfl hlt w2) ?_
    refine pl_val _ rfl rfl (val_load (vcell (nm, sz)) hT rfl rfl rfl hra) ?_
    refine pl_op rfl rfl (opTo_allocN _ rfl zero_var ?_)
    intro w3 c hc3 hs3 hk3 hC3
    refine pl_op rfl rfl (opTo_storeN _ rfl rfl rfl rfl (by kernel_rfl) hC3 (by simp [vcell, varZ]) (vcell_one _) ?_)
    intro w4 hs4 hk4 hC4
    rw [splice_whole (by rfl)] at hC4
    have hk24 : Keep [] w2 w4 := hk3.trB hk4 (by omega)
    have hB4 := hk24.blk hB2 (by simp)
    have hk4w := hk2.tr hk24
    unfold vcell at hC4
    clear hk3 hk4 hC3
    refine au ?_
    refine pl_val _ rfl rfl (val_load1 hT rfl rfl rfl (hC4.cell rfl)) ?_
    refine pl_op rfl rfl (opTo_call rfl rfl rfl rfl (by decide +kernel) ((nameText_ret nm (by omega) w4).mono ?_))
    rintro v5 w5 ⟨rfl, rfl⟩
    cases hno : nameOk nm with
    | false =>
      refine au ?_
      refine rn_ret Try.func29 (.inl ⟨_, rfl, rfl⟩) ⟨?_, hk4w⟩
      have hcv : chkV [] 0 vs = 8 := by rw [hch, if_pos hno]
      rw [hcv]
      rfl
    | true =>
      rw [hno, if_neg (by simp)] at hch
      refine au ?_
      refine rn_ind (fun m σ w' => ∃ k : Nat, k ≤ i ∧ m = i - k ∧ σ = [(1, .pointer (some ⟨p, 0, none⟩)), (3, .int .i64 (sumV (vs.take i))), (4, .int .i64 (i : Nat)), (5, .pointer (some ⟨c, 0, none⟩)), (6, .int .i64 (k : Nat))] ∧ (vs.take k).any (sameName (nm, sz)) = false ∧ Keep [] w5 w') i _ ?_ ⟨0, by omega, by omega, rfl, by simp, Keep.refl _ _⟩ ?_
      · exact ⟨rfl, rfl, rfl, rfl, rfl, trivial⟩
      rintro m σ w6 ih3 ⟨k, hk, rfl, rfl, hany, hk6⟩
      refine au ?_
      by_cases hki : k < i
      · refine ye ?_
        refine au ?_
        have hgk : vs[k]? = some (vs[k]'(by omega)) := List.getElem?_eq_getElem (by omega)
        have hmem : vs[k]'(by omega) ∈ vs.take i := by
          rw [List.mem_iff_getElem?]
          exact ⟨k, by rw [List.getElem?_take, if_pos hki]; exact hgk⟩
        obtain ⟨b2, q2, _, hv2, hF2, hr2⟩ := hv.at hgk
        cases hv2
        have hsuk : (vs.take (k + 1)).any (sameName (nm, sz)) = sameName (nm, sz) (vs[k]'(by omega)) := by
          rw [List.take_succ_eq_append_getElem (by omega), List.any_append, hany]
          simp
        generalize vs[k]'(by omega) = y at *
        have hkw6 := hk4w.tr hk6
        refine rn_draw (fun w' => Keep [] w6 w') [] hMix ?_
        have hS : Keep [] w6 w6.drew := (Keep.refl _ _).drew
        generalize w6.drew = w7 at *
        refine tk 0 ?_
        refine dr_val 1 _ rfl (by decide +kernel) rfl rfl (fun w9 hS9 => val_load1 hT rfl rfl rfl (((hk6.tr hS9).blk hB4 (by simp)).cell rfl)) hS ?_
        refine tk 2 ?_
        refine dr_any 3 _ rfl (by decide +kernel) rfl rfl (fun w => val_index k hT rfl rfl rfl rfl rfl (by omega) w) ?_
        refine tk 4 ?_
        refine dr_val 5 (.string y.1) rfl (by decide +kernel) rfl rfl (fun w9 hS9 => val_load1 hT rfl rfl rfl (range_keep hr2 (hkw6.tr hS9) (hF _ hF2) (by simp) 0 (.string y.1) rfl)) hS ?_
        refine tk 6 ?_
        refine dr_val 7 _ rfl (by decide +kernel) rfl rfl (fun w9 hS9 => val_load1 hT rfl rfl rfl (((hk6.tr hS9).blk hC4 (by simp)).cell rfl)) hS ?_
        refine dr_any 8 (.bool (sameName (nm, sz) y)) rfl (by decide +kernel) rfl rfl (fun w => val_eqStr y.1 nm _ rfl rfl rfl rfl w) ?_
        refine dr_done (by decide +kernel) ?_
        cases hsn : sameName (nm, sz) y with
        | true =>
          refine au ?_
          refine rn_ret Try.func29 (.inl ⟨_, rfl, rfl⟩) ⟨?_, hkw6.tr hS⟩
          have hcv : chkV [] 0 vs = 9 := by rw [hch, if_pos (List.any_eq_true.2 ⟨_, hmem, hsn⟩)]
          rw [hcv]
          rfl
        | false =>
          refine au ?_
          refine pl_num (((k + 1 : Nat) : Int)) rfl rfl rfl rfl rfl (by simp only [ariP]; omega) ?_
          refine au ?_
          refine rn_sub ?_ (ih3 (i - (k + 1)) [(1, .pointer (some ⟨p, 0, none⟩)), (3, .int .i64 (sumV (vs.take i))), (4, .int .i64 (i : Nat)), (5, .pointer (some ⟨c, 0, none⟩)), (6, .int .i64 ((k + 1 : Nat) : Int))] w7 (by omega) ⟨k + 1, by omega, rfl, rfl, by rw [hsuk, hsn], hk6.tr hS⟩)
          exact ⟨rfl, rfl, rfl, rfl, rfl, trivial⟩
      · have hki' : k = i := by omega
        subst hki'
        rw [if_neg (by rw [hany]; simp)] at hch
        have hC6 := hk6.blk hC4 (by simp)
        have hB6 := hk6.blk hB4 (by simp)
        have hkw6 := hk4w.tr hk6
        refine nay ?_
        refine au ?_
        by_cases h1 : sz < 1
        · refine aub ?_
          refine rn_ret Try.func29 (.inl ⟨_, rfl, rfl⟩) ⟨?_, hkw6⟩
          have hcv : chkV [] 0 vs = 1 := by rw [hch, if_pos (.inl h1)]
          rw [hcv]
          rfl
        · by_cases h2 : sz > 48
          · refine aub ?_
            refine rn_ret Try.func29 (.inl ⟨_, rfl, rfl⟩) ⟨?_, hkw6⟩
            have hcv : chkV [] 0 vs = 1 := by rw [hch, if_pos (.inr (.inl h2))]
            rw [hcv]
            rfl
          · refine aub ?_
            refine pl_num (sumV (vs.take (k + 1))) rfl rfl rfl rfl rfl (by simp only [ariP]; omega) ?_
            by_cases h3 : sumV (vs.take k) + sz > 48
            · refine aub ?_
              refine rn_ret Try.func29 (.inl ⟨_, rfl, rfl⟩) ⟨?_, hkw6⟩
              have hcv : chkV [] 0 vs = 1 := by rw [hch, if_pos (.inr (.inr h3))]
              rw [hcv]
              rfl
            · rw [if_neg (by omega)] at hch
              refine aub ?_
              refine pl_num (sumV (vs.take (k + 1))) rfl rfl rfl rfl rfl (by simp only [ariP]; omega) ?_
              refine au ?_
              refine pl_num (((k + 1 : Nat) : Int)) rfl rfl rfl rfl rfl (by simp only [ariP]; omega) ?_
              refine au ?_
              refine rn_sub ?_ (ih (vs.length - (k + 1)) [(1, .pointer (some ⟨p, 0, none⟩)), (3, .int .i64 (sumV (vs.take (k + 1)))), (4, .int .i64 ((k + 1 : Nat) : Int))] w6 (by omega) ⟨k + 1, by omega, rfl, rfl, hch, by omega, by omega, hB6, hkw6⟩)
              exact ⟨rfl, rfl, rfl, trivial⟩
  · refine nay ?_
    refine au ?_
    have hz : chkV [] 0 vs = 0 := by rw [hch, List.drop_eq_nil_of_le (by omega)]; rfl
    rw [hz]
    simp only [ne_eq, not_true_eq_false, if_false]
    refine pl_val _ rfl rfl (val_load [.slice av vs.length capv, .slice ab body.length capb] hT rfl rfl rfl (hB2.range (by rfl))) ?_
    refine pl_val _ rfl rfl (val_build _ rfl rfl (built_looking _ _ _ _ _ _) w2) ?_
    refine pl_op rfl rfl (opTo_boxN [.slice av vs.length capv, .slice ab body.length capb, .int .i64 0, .int .i64 0] rfl rfl rfl ?_)
    intro w3 j hj hs3 hk3 hJ3
    have hJ3' : Blk w3 j (lkC (.slice av vs.length capv) (.slice ab body.length capb) 0 0) tLk := hJ3
    have hB3 := hk3.blk hB2 (by simp)
    have hk3w := hk2.tr hk3
    refine au ?_
    refine pl_val _ rfl rfl (val_load1 hT rfl rfl rfl (hB3.cell rfl)) ?_
    refine pl_op rfl rfl (opTo_call rfl rfl rfl rfl (by decide +kernel) ((lookList_ret _ body (Nat.lt_succ_self _) hsz 0 0 0 (hb.keep hk3w hF.stays) (hF.keep hk3w) (fun h => by have := hF j h; have := hk2.size; omega) hJ3' (.inl (by omega)) (by omega) (fun _ => by omega)).mono ?_))
    rintro v4 w4 ⟨rfl, ⟨n4, c4, hJ4, hT4⟩, hk4⟩
    have hJ4' := hJ4
    unfold lkC at hJ4'
    refine au ?_
    refine pl_val _ rfl rfl (val_load1 hT rfl rfl rfl (hJ4'.cell rfl)) ?_
    refine au ?_
    refine rn_ret Try.func29 (.inl ⟨_, rfl, rfl⟩) ⟨?_, hk3w.trB hk4 (by have := hk2.size; omega)⟩
    have ht := hT4.2.1 rfl
    cases hx : chkSs vs.length body 0 0 with
    | ok q => rw [(ht.1 q hx).2]; rfl
    | error e => rw [ht.2 e hx]; rfl

end E
end Go.Proofs.Ytmdjgejahnmfmae

/- Lists of numbers, as an argument of a law is read. -/
namespace Go.Proofs.Ytmdjgejahnmfmae
set_option maxRecDepth 20000
set_option maxHeartbeats 4000000
namespace E
open Go.Proofs

/-- A number of 64 bits. -/
abbrev Lg64 : Type := Int
theorem int_lt {n : Int} (h : (Lit.int .i64 n).wf = true) : n < 9223372036854775808 := by
  simp only [Lit.wf, Bool.and_eq_true, decide_eq_true_eq] at h
  have h2 : n ≤ 9223372036854775807 := h.2
  omega
def ArgI (_ : Nat) (w : World) (v : Value) (l : List Int) : Prop := InpV w v l
theorem flat_lgs (l : List Int) : l.flatMap (fun n => [Value.int .i64 n]) = lgs l := by
  induction l with
  | nil => rfl
  | cons x r ih => rw [List.flatMap_cons, ih]; rfl
theorem argI_of {H : Type} {enc : TypeId × Value → H} {w : World} {v : Value} {d : DataW H} {ps : List MemPlace} (h : DataW.Trod enc Try.prog w 0 (fun _ => true) true 26 v d ps) (hv : v.cells = #[v]) : ∃ l, ArgI w.heap.size w v l := by
  obtain ⟨fuel, hf⟩ := h
  obtain ⟨a, cap, L, hcs, hr, _⟩ := open_list (fun n : Int => [Value.int .i64 n]) (fun _ => True) 1 (by decide) Try.underlying26 (by decide +kernel) (fun s _ => rfl) (fun n cs x h => by
    obtain ⟨z, hz, _⟩ := trod_int1 Try.underlying2 h
    exact ⟨z, hz, trivial⟩) hf
  rw [hv] at hcs
  simp at hcs
  refine ⟨L, a, cap, hcs, fun h0 => ?_⟩
  obtain ⟨b, q, h1, h2, h3⟩ := hr (by intro e; rw [e] at h0; simp at h0)
  rw [flat_lgs] at h3
  exact ⟨b, q, h1, h2, h3⟩
/-- The same, and it has as much room as it has numbers; so many of them are no more than memory. -/
def ArgC (_ : Nat) (w : World) (v : Value) (l : List Int) : Prop := InpV w v l ∧ ∀ a n cap, v = .slice a n cap → n ≤ cap
theorem argC_of {H : Type} {enc : TypeId × Value → H} {w : World} {v : Value} {d : DataW H} {ps : List MemPlace} (h : DataW.Trod enc Try.prog w 0 (fun _ => true) true 26 v d ps) (hv : v.cells = #[v]) : ∃ l, ArgC w.heap.size w v l := by
  obtain ⟨l, hl⟩ := argI_of h hv
  refine ⟨l, hl, fun a n cap he => ?_⟩
  subst he
  obtain ⟨fuel, hf⟩ := h
  rcases Go.Deep.open_slice Try.underlying26 hf with ⟨hcs, _⟩ | ⟨a', len, cap', m, n', D, Pl, hcs, _, hl', _⟩
  · rw [hv] at hcs
    simp at hcs
    omega
  · rw [hv] at hcs
    simp at hcs
    omega
end E
end Go.Proofs.Ytmdjgejahnmfmae

/- The walk of IdealRuns. -/
namespace Go.Proofs.Ytmdjgejahnmfmae
set_option maxRecDepth 20000
set_option maxHeartbeats 4000000
namespace E
open Go.Proofs

theorem built_re0 : Try.prog.built 46 [] = some (resC 0 (.slice none 0 0) (.slice none 0 0)).toArray := by kernel_rfl
theorem idealRuns_ret (hI : IdC) {w : World} {x iv : Value} {vs : List VarT} {body : List ST} {inp : List Int} (h : ProgV (fun b => b < w.heap.size) w x vs body) (hi : LsC w iv inp) (fuel : Int) :
    Ret Try.prog 7 [x, iv, .int .i64 fuel] w fun r w' => r = .bool true ∧ Keep [] w w' := by
  have hF : In (fun b => b < w.heap.size) w := fun c hc => hc
  have hh := h
  obtain ⟨vv, bv, rfl, hv, hb⟩ := h
  obtain ⟨av, capv, rfl⟩ := hv.form
  obtain ⟨ab, capb, rfl⟩ := hb.form
  have hic := hi
  have hi0 : LsV w iv inp := hi.1
  obtain ⟨⟨ia, icap, rfl, _⟩, _⟩ := hi
  refine ret_of 74 Try.func7 rfl rfl (by simp) ?_
  refine au ?_
  refine pl_op rfl rfl (opTo_boxN [.slice av vs.length capv, .slice ab body.length capb] rfl rfl rfl ?_)
  intro w1 p hp0 hs1 hk1 hp1
  refine au ?_
  refine pl_op rfl rfl (opTo_call (fst := []) (cap := []) rfl rfl rfl rfl (by decide +kernel) ((idealBegun_ret hI w1).mono ?_))
  rintro r w2 ⟨rfl, hk2⟩
  have hk02 := hk1.tr hk2
  have hp2 := hk2.blk hp1 (by simp)
  refine au ?_
  refine pl_val _ rfl rfl (val_load [.slice av vs.length capv, .slice ab body.length capb] hT rfl rfl rfl (hp2.range (by rfl))) ?_
  refine pl_op rfl rfl (opTo_call (fst := []) (cap := []) rfl rfl rfl rfl (by decide +kernel) ((great_ret (hh.keep hk02 hF.stays) (hF.keep hk02)).mono ?_))
  rintro r w3 ⟨⟨g, rfl, hg⟩, hk3⟩
  have hk03 := hk02.tr hk3
  have hp3 := hk3.blk hp2 (by simp)
  cases g with
  | true =>
    refine au ?_
    exact rn_ret Try.func7 (.inl ⟨_, rfl, rfl⟩) ⟨rfl, hk03⟩
  | false =>
    obtain ⟨h30, hnm, hsz⟩ := hg rfl
    have hnm' : ∀ y ∈ vs, y.1.size ≤ 100000 := fun y hy => by have := hnm y hy; omega
    refine au ?_
    by_cases hil : inp.length > 100
    · refine ye ?_
      refine au ?_
      exact rn_ret Try.func7 (.inl ⟨_, rfl, rfl⟩) ⟨rfl, hk03⟩
    refine nay ?_
    refine au ?_
    obtain ⟨T, hTe⟩ : ∃ T, T = runI vs body inp fuel := ⟨_, rfl⟩
    refine pl_val _ rfl rfl (val_load [.slice av vs.length capv, .slice ab body.length capb] hT rfl rfl rfl (hp3.range (by rfl))) ?_
    refine au ?_
    refine pl_op rfl rfl (opTo_call (fst := []) (cap := []) rfl rfl rfl rfl (by decide +kernel) ((hI.run fuel (hh.keep hk03 hF.stays) (hF.keep hk03) (hic.keep0 hk03) (by omega) (by omega) (by omega)).mono ?_))
    rintro r w4 ⟨⟨ov4, cv4, rfl, ⟨hov4, hoc4⟩, hcv4, _⟩, hk4⟩
    rw [← hTe] at hov4 hcv4 ⊢
    have hov4' := hov4
    have hcv4' := hcv4
    obtain ⟨oa4, oc4, rfl, _⟩ := hov4'
    obtain ⟨ca4, cc4, rfl, _⟩ := hcv4'
    refine au ?_
    refine pl_op rfl rfl (opTo_allocN _ rfl zero_re ?_)
    intro w5 x5 hx5 hs5 hk5 hb5
    refine pl_op rfl rfl (opTo_storeN (resC T.code (.slice oa4 T.out.length oc4) (.slice ca4 T.cells.length cc4)) rfl rfl rfl rfl size_re hb5 (by simp [resC]) (resC_one _ _ _ _ _ _ _) ?_)
    intro w6 hs6 hk6 hb6
    rw [splice_whole (by rfl)] at hb6
    have hk46 : Keep [] w4 w6 := hk5.trB hk6 (by omega)
    have hk06 := (hk03.tr hk4).tr hk46
    have hp6 := (hk4.tr hk46).blk hp3 (by simp)
    refine au ?_
    refine pl_val _ rfl rfl (val_load [.slice av vs.length capv, .slice ab body.length capb] hT rfl rfl rfl (hp6.range (by rfl))) ?_
    refine pl_op rfl rfl (opTo_call (fst := []) (cap := []) rfl rfl rfl rfl (by decide +kernel) ((refFault_ret (hh.keep hk06 hF.stays) (hF.keep hk06) hnm' (by omega)).mono ?_))
    rintro r w7 ⟨rfl, hk7⟩
    have hk07 := hk06.tr hk7
    have hb7 := hk7.blk hb6 (by simp)
    have hov7 := (hov4.keep0 hk46).keep0 hk7
    have hcv7 := (hcv4.keep0 hk46).keep0 hk7
    have hp7 := hk7.blk hp6 (by simp)
    refine au ?_
    by_cases hpf : ¬ progFault vs body = 0
    · have hR := runI_not (inp := inp) (fuel := fuel) hpf
      rw [← hTe] at hR
      have t1 : T.code = 0 := by rw [hR]
      have t2 : T.used = 0 := by rw [hR]
      have t3 : T.out = [] := by rw [hR]
      have t4 : T.cells = [] := by rw [hR]
      have t5 : T.fault = progFault vs body := by rw [hR]
      clear hR
      refine nay ?_
      refine au ?_
      refine nay ?_
      refine au ?_
      refine ye ?_
      refine au ?_
      refine ye ?_
      refine au ?_
      refine pl_val _ rfl rfl (val_load (resC T.code (.slice oa4 T.out.length oc4) (.slice ca4 T.cells.length cc4)) hT rfl rfl rfl (hb7.range (by rfl))) ?_
      refine pl_val _ rfl rfl (val_build _ rfl rfl built_re0 w7) ?_
      rw [t1]
      refine pl_op rfl rfl (opTo_call (fst := []) (cap := []) rfl rfl rfl rfl (by decide +kernel) ((sameRes_ret 0 hov7 hcv7 (by rw [t3]; exact (ls_nil w7).1) (by rw [t4]; exact (ls_nil w7).1) (by rw [t3]; decide) (by rw [t4]; decide)).mono ?_))
      rintro r w8 ⟨rfl, hk8⟩
      refine au ?_
      exact rn_ret Try.func7 (.inl ⟨_, rfl, rfl⟩) ⟨rfl, hk07.tr hk8⟩
    replace hpf : progFault vs body = 0 := by omega
    refine ye ?_
    refine au ?_
    by_cases hin : ¬ (inp.length ≤ 40 ∧ 0 ≤ fuel ∧ fuel ≤ 3000)
    · have hR := runI_off hpf hin
      rw [← hTe] at hR
      have t1 : T.code = 0 := by rw [hR]
      have t2 : T.used = 0 := by rw [hR]
      have t3 : T.out = [] := by rw [hR]
      have t4 : T.cells = [] := by rw [hR]
      have t5 : T.fault = 1 := by rw [hR]
      clear hR
      by_cases h40 : inp.length > 40
      · refine ye ?_
        refine au ?_
        refine nay ?_
        refine au ?_
        refine ye ?_
        refine au ?_
        refine ye ?_
        refine au ?_
        refine pl_val _ rfl rfl (val_load (resC T.code (.slice oa4 T.out.length oc4) (.slice ca4 T.cells.length cc4)) hT rfl rfl rfl (hb7.range (by rfl))) ?_
        refine pl_val _ rfl rfl (val_build _ rfl rfl built_re0 w7) ?_
        rw [t1]
        refine pl_op rfl rfl (opTo_call (fst := []) (cap := []) rfl rfl rfl rfl (by decide +kernel) ((sameRes_ret 0 hov7 hcv7 (by rw [t3]; exact (ls_nil w7).1) (by rw [t4]; exact (ls_nil w7).1) (by rw [t3]; decide) (by rw [t4]; decide)).mono ?_))
        rintro r w8 ⟨rfl, hk8⟩
        refine au ?_
        exact rn_ret Try.func7 (.inl ⟨_, rfl, rfl⟩) ⟨rfl, hk07.tr hk8⟩
      refine nay ?_
      refine au ?_
      by_cases hf0 : fuel < 0
      · refine ye ?_
        refine au ?_
        refine nay ?_
        refine au ?_
        refine ye ?_
        refine au ?_
        refine ye ?_
        refine au ?_
        refine pl_val _ rfl rfl (val_load (resC T.code (.slice oa4 T.out.length oc4) (.slice ca4 T.cells.length cc4)) hT rfl rfl rfl (hb7.range (by rfl))) ?_
        refine pl_val _ rfl rfl (val_build _ rfl rfl built_re0 w7) ?_
        rw [t1]
        refine pl_op rfl rfl (opTo_call (fst := []) (cap := []) rfl rfl rfl rfl (by decide +kernel) ((sameRes_ret 0 hov7 hcv7 (by rw [t3]; exact (ls_nil w7).1) (by rw [t4]; exact (ls_nil w7).1) (by rw [t3]; decide) (by rw [t4]; decide)).mono ?_))
        rintro r w8 ⟨rfl, hk8⟩
        refine au ?_
        exact rn_ret Try.func7 (.inl ⟨_, rfl, rfl⟩) ⟨rfl, hk07.tr hk8⟩
      refine nay ?_
      refine au ?_
      refine ye ?_
      refine au ?_
      refine nay ?_
      refine au ?_
      refine ye ?_
      refine au ?_
      refine ye ?_
      refine au ?_
      refine pl_val _ rfl rfl (val_load (resC T.code (.slice oa4 T.out.length oc4) (.slice ca4 T.cells.length cc4)) hT rfl rfl rfl (hb7.range (by rfl))) ?_
      refine pl_val _ rfl rfl (val_build _ rfl rfl built_re0 w7) ?_
      rw [t1]
      refine pl_op rfl rfl (opTo_call (fst := []) (cap := []) rfl rfl rfl rfl (by decide +kernel) ((sameRes_ret 0 hov7 hcv7 (by rw [t3]; exact (ls_nil w7).1) (by rw [t4]; exact (ls_nil w7).1) (by rw [t3]; decide) (by rw [t4]; decide)).mono ?_))
      rintro r w8 ⟨rfl, hk8⟩
      refine au ?_
      exact rn_ret Try.func7 (.inl ⟨_, rfl, rfl⟩) ⟨rfl, hk07.tr hk8⟩
    replace hin : inp.length ≤ 40 ∧ 0 ≤ fuel ∧ fuel ≤ 3000 := by
      by_cases hh : inp.length ≤ 40 ∧ 0 ≤ fuel ∧ fuel ≤ 3000
      · exact hh
      · exact absurd hh hin
    obtain ⟨k, rfl⟩ : ∃ k : Nat, fuel = (k : Nat) := ⟨fuel.toNat, by omega⟩
    have hR := runI_in hpf hin.1 hin.2.1 hin.2.2
    rw [← hTe, Int.toNat_natCast] at hR
    have t5 : T.fault = 0 := by rw [hR]; rfl
    refine nay ?_
    refine au ?_
    refine nay ?_
    refine au ?_
    refine nay ?_
    refine au ?_
    refine nay ?_
    refine au ?_
    refine nay ?_
    refine au ?_
    refine pl_val _ rfl rfl (val_load [.slice av vs.length capv, .slice ab body.length capb] hT rfl rfl rfl (hp7.range (by rfl))) ?_
    refine au ?_
    refine pl_op rfl rfl (opTo_call (fst := []) (cap := []) rfl rfl rfl rfl (by decide +kernel) ((refIdeal_ret k (hh.keep hk07 hF.stays) (hF.keep hk07) (hi0.keep0 hk07) hpf (by omega) (by omega) (by omega)).mono ?_))
    rintro r w8 ⟨⟨ov8, cv8, rfl, hov8, hcv8⟩, hk8⟩
    rw [← hR] at hov8 hcv8 ⊢
    have hov8' := hov8
    have hcv8' := hcv8
    obtain ⟨oa8, oc8, rfl, _⟩ := hov8'
    obtain ⟨ca8, cc8, rfl, _⟩ := hcv8'
    refine au ?_
    refine pl_op rfl rfl (opTo_allocN _ rfl zero_re ?_)
    intro w9 x9 hx9 hs9 hk9 hb9
    refine pl_op rfl rfl (opTo_storeN (resC T.code (.slice oa8 T.out.length oc8) (.slice ca8 T.cells.length cc8)) rfl rfl rfl rfl size_re hb9 (by simp [resC]) (resC_one _ _ _ _ _ _ _) ?_)
    intro w10 hs10 hk10 hb10
    rw [splice_whole (by rfl)] at hb10
    have hk810 : Keep [] w8 w10 := hk9.trB hk10 (by omega)
    have hk710 := hk8.tr hk810
    have hb710 := hk710.blk hb7 (by simp)
    have hbd := runI_bnd (vs := vs) (body := body) (by omega) inp ((k : Nat) : Int)
    rw [← hTe] at hbd
    refine au ?_
    refine pl_val _ rfl rfl (val_load (resC T.code (.slice oa4 T.out.length oc4) (.slice ca4 T.cells.length cc4)) hT rfl rfl rfl (hb710.range (by rfl))) ?_
    refine pl_val _ rfl rfl (val_load (resC T.code (.slice oa8 T.out.length oc8) (.slice ca8 T.cells.length cc8)) hT rfl rfl rfl (hb10.range (by rfl))) ?_
    refine pl_op rfl rfl (opTo_call (fst := []) (cap := []) rfl rfl rfl rfl (by decide +kernel) ((sameRes_ret T.code (hov7.keep0 hk710) (hcv7.keep0 hk710) (hov8.keep0 hk810) (hcv8.keep0 hk810) (by omega) (by omega)).mono ?_))
    rintro r w11 ⟨rfl, hk11⟩
    refine au ?_
    refine ye ?_
    refine au ?_
    exact rn_ret Try.func7 (.inl ⟨_, rfl, rfl⟩) ⟨rfl, (hk07.tr hk710).tr hk11⟩
end E
end Go.Proofs.Ytmdjgejahnmfmae

/- Laws of single operations on strings, second part: s[l:h], s + t, an error held against nil, two faults (structs of two numbers) held against one another. -/
namespace Go.Proofs.Ytmdjgejahnmfmae
set_option maxRecDepth 20000
set_option maxHeartbeats 4000000
namespace E

section
variable {P : Program} {n : Nat} {σ : Env} {o : Oper}

/-- s[l:h]. -/
theorem val_strCut {t : Nat} {x lo hi : Operand} {k1 k2 : IntKind} {i1 i2 : Int} (s : ByteArray) (l h : Nat) (ht : isStr P t = true) (ho : o.op = .slice t x (some lo) (some hi) none) (hx : ev σ x = some (.string s))
    (h1 : ev σ lo = some (.int k1 i1)) (h2 : ev σ hi = some (.int k2 i2)) (e1 : i1 = (l : Int)) (e2 : i2 = (h : Int)) (hl : l ≤ h) (hh : h ≤ s.size) (w : World) : Val P n σ o w (.string (s.extract l h)) := by
  intro ac ha
  subst e1; subst e2
  simp [execOp, ho, ha.eval hx, ha.eval h1, ha.eval h2, Instr.sliceAt, Instr.slice, Instr.sliceBounds, Instr.sliceBound, asIntOf, run_underlying (isStr_spec ht), hl, hh]
/-- s[l:]. -/
theorem val_strFrom {t : Nat} {x lo : Operand} {k1 : IntKind} {i1 : Int} (s : ByteArray) (l : Nat) (ht : isStr P t = true) (ho : o.op = .slice t x (some lo) none none) (hx : ev σ x = some (.string s))
    (h1 : ev σ lo = some (.int k1 i1)) (e1 : i1 = (l : Int)) (hl : l ≤ s.size) (w : World) : Val P n σ o w (.string (s.extract l s.size)) := by
  intro ac ha
  subst e1
  simp [execOp, ho, ha.eval hx, ha.eval h1, Instr.sliceAt, Instr.slice, Instr.sliceBounds, Instr.sliceBound, asIntOf, run_underlying (isStr_spec ht), hl]
/-- s[:h]. -/
theorem val_strTo {t : Nat} {x hi : Operand} {k2 : IntKind} {i2 : Int} (s : ByteArray) (h : Nat) (ht : isStr P t = true) (ho : o.op = .slice t x none (some hi) none) (hx : ev σ x = some (.string s))
    (h2 : ev σ hi = some (.int k2 i2)) (e2 : i2 = (h : Int)) (hh : h ≤ s.size) (w : World) : Val P n σ o w (.string (s.extract 0 h)) := by
  intro ac ha
  subst e2
  simp [execOp, ho, ha.eval hx, ha.eval h2, Instr.sliceAt, Instr.slice, Instr.sliceBounds, Instr.sliceBound, asIntOf, run_underlying (isStr_spec ht), hh]

/-- s + t. -/
theorem val_strAdd {t t' : Nat} {x y : Operand} (a b : ByteArray) (ho : o.op = .binOp .add t x y t') (hx : ev σ x = some (.string a)) (hy : ev σ y = some (.string b)) (hs : a.size + b.size ≤ 9223372036854775807) (w : World) : Val P n σ o w (.string (a ++ b)) := by
  intro ac ha
  simp only [execOp, ho, ha.eval hx, ha.eval hy, Sem.run_bind]
  simp [eqGuard, binOp, Op.stringOp]
  omega

/-- A string's bytes. -/
theorem toList_extract (s : ByteArray) (l h : Nat) : (s.extract l h).data.toList = (s.data.toList.drop l).take (h - l) := by
  rw [ByteArray.data_extract, Array.toList_extract, List.extract_eq_drop_take']
  rw [List.drop_take]
theorem toList_add (a b : ByteArray) : (a ++ b).data.toList = a.data.toList ++ b.data.toList := by
  rw [ByteArray.data_append, Array.toList_append]
theorem size_toList (s : ByteArray) : s.data.toList.length = s.size := by
  rw [Array.length_toList]; rfl

def isIface (P : Program) (t : Nat) : Bool :=
  match P.underlying t with
  | some (.interface _) => true
  | _ => false
theorem isIface_spec {t : Nat} (h : isIface P t = true) : ∃ ms, P.underlying t = some (.interface ms) := by
  unfold isIface at h
  split at h
  · rename_i ms hu; exact ⟨ms, hu⟩
  · cases h

theorem eq_nil_nil {t : Nat} {ms : Array (String × TypeId)} (hu : P.underlying t = some (.interface ms)) (w : World) : (Op.equal t .nilIface .nilIface).run P w = .ok true w := by
  have e : ∀ d, (Op.equalIn (d + 1) t .nilIface .nilIface).run P w = .ok true w := by
    intro d
    simp [Op.equalIn, run_underlying hu]
  exact e 9999
theorem eq_some_nil {t : Nat} {ms : Array (String × TypeId)} (hu : P.underlying t = some (.interface ms)) (tp : TypeId) (v : Value) (w : World) : (Op.equal t (.iface tp v) .nilIface).run P w = .ok false w := by
  have e : ∀ d, (Op.equalIn (d + 1) t (.iface tp v) .nilIface).run P w = .ok false w := by
    intro d
    simp [Op.equalIn, run_underlying hu]
  exact e 9999
/-- err != nil, err == nil. -/
theorem val_errNil {t t' : Nat} {x : Operand} (h : isIface P t = true) (ho : o.op = .binOp .neq t x (.const .nilIface) t') (hx : ev σ x = some .nilIface) (w : World) : Val P n σ o w (.bool false) := by
  intro ac ha
  obtain ⟨ms, hu⟩ := isIface_spec h
  have e := eq_nil_nil hu w
  have hc : ac.eval (.const .nilIface) = .nilIface := ha.eval (x := .const .nilIface) rfl
  simp [execOp, ho, ha.eval hx, hc, eqGuard, binOp, e]
theorem val_errSome {t t' : Nat} {x : Operand} (tp : TypeId) (v : Value) (h : isIface P t = true) (ho : o.op = .binOp .neq t x (.const .nilIface) t') (hx : ev σ x = some (.iface tp v)) (w : World) : Val P n σ o w (.bool true) := by
  intro ac ha
  obtain ⟨ms, hu⟩ := isIface_spec h
  have e := eq_some_nil hu tp v w
  have hc : ac.eval (.const .nilIface) = .nilIface := ha.eval (x := .const .nilIface) rfl
  simp [execOp, ho, ha.eval hx, hc, eqGuard, binOp, e]
theorem val_errNilE {t t' : Nat} {x : Operand} (h : isIface P t = true) (ho : o.op = .binOp .eql t x (.const .nilIface) t') (hx : ev σ x = some .nilIface) (w : World) : Val P n σ o w (.bool true) := by
  intro ac ha
  obtain ⟨ms, hu⟩ := isIface_spec h
  have e := eq_nil_nil hu w
  have hc : ac.eval (.const .nilIface) = .nilIface := ha.eval (x := .const .nilIface) rfl
  simp [execOp, ho, ha.eval hx, hc, eqGuard, binOp, e]
theorem val_errSomeE {t t' : Nat} {x : Operand} (tp : TypeId) (v : Value) (h : isIface P t = true) (ho : o.op = .binOp .eql t x (.const .nilIface) t') (hx : ev σ x = some (.iface tp v)) (w : World) : Val P n σ o w (.bool false) := by
  intro ac ha
  obtain ⟨ms, hu⟩ := isIface_spec h
  have e := eq_some_nil hu tp v w
  have hc : ac.eval (.const .nilIface) = .nilIface := ha.eval (x := .const .nilIface) rfl
  simp [execOp, ho, ha.eval hx, hc, eqGuard, binOp, e]

/-- A struct of two numbers. -/
def isTwo (P : Program) (t : Nat) : Bool :=
  match P.underlying t with
  | some (.struct fs) => match fs.toList with
    | [f, g] => f.offset == 0 && g.offset == 1 && (f.name != "_") && (g.name != "_") && (match P.underlying f.type with | some (.int _) => true | _ => false) && (match P.underlying g.type with | some (.int _) => true | _ => false) && !(P.stoodInHeld t) && !(P.eqGuardType P.depth t)
    | _ => false
  | _ => false

theorem run_equal_two {t : Nat} (h : isTwo P t = true) (a b x y : Int) (w : World) :
    (Op.equalIn 10000 t (.agg #[.int .i64 a, .int .i64 x]) (.agg #[.int .i64 b, .int .i64 y])).run P w = .ok (a == b && x == y) w ∧ P.eqGuardType P.depth t = false := by
  unfold isTwo at h
  split at h
  · rename_i fs hu
    split at h
    · rename_i f g hfs
      simp only [Bool.and_eq_true, beq_iff_eq, bne_iff_ne, Bool.not_eq_true'] at h
      obtain ⟨⟨⟨⟨⟨⟨⟨h1, h2⟩, h3⟩, h4⟩, h5⟩, h6⟩, h7⟩, h8⟩ := h
      refine ⟨?_, h8⟩
      have hf : P.fieldsOf t = fs := by simp [Program.fieldsOf, hu]
      split at h5
      · rename_i k0 hs
        split at h6
        · rename_i k hk
          rw [run_equalIn_struct w 9999 t _ _ (by rw [hf]; exact hu) h7, hf, hfs]
          have e1 := run_equalIn_int (P := P) w 9998 f.type .i64 k0 a b hs
          have e2 := run_equalIn_int (P := P) w 9998 g.type .i64 k x y hk
          have p1 : (part f.type #[.int .i64 a, .int .i64 x] 0).run P w = .ok (.int .i64 a) w := by simp [part, isAgg, run_underlying hs]
          have p2 : (part f.type #[.int .i64 b, .int .i64 y] 0).run P w = .ok (.int .i64 b) w := by simp [part, isAgg, run_underlying hs]
          have p3 : (part g.type #[.int .i64 a, .int .i64 x] 1).run P w = .ok (.int .i64 x) w := by simp [part, isAgg, run_underlying hk]
          have p4 : (part g.type #[.int .i64 b, .int .i64 y] 1).run P w = .ok (.int .i64 y) w := by simp [part, isAgg, run_underlying hk]
          simp only [Op.eqFields, h1, h2, h3, h4, ne_eq, not_false_eq_true, if_true, Sem.run_bind, p1, p2, Result.andThen_ok, e1]
          generalize (a == b) = p at *
          generalize (x == y) = q at *
          have e2' : (Op.equalIn 9999 g.type (.int .i64 x) (.int .i64 y)).run P w = .ok q w := e2
          cases p <;> cases q <;> simp [p3, p4, e2']
        · cases h6
      · cases h5
    · cases h
  · cases h
theorem val_neTwo {t t' : Nat} {x y : Operand} (a b k l : Int) (r : Bool) (h : isTwo P t = true) (ho : o.op = .binOp .neq t x y t') (hx : ev σ x = some (.agg #[.int .i64 a, .int .i64 k])) (hy : ev σ y = some (.agg #[.int .i64 b, .int .i64 l]))
    (hr : (!(a == b && k == l)) = r) (w : World) : Val P n σ o w (.bool r) := by
  intro ac ha
  subst hr
  obtain ⟨h1, h2⟩ := run_equal_two h a b k l w
  simp only [execOp, ho, ha.eval hx, ha.eval hy, Sem.run_bind, run_eqGuard_agg w .neq t _ _ _ _ h2, Result.andThen_ok, run_neq_struct, h1]
  simp
theorem val_eqTwo {t t' : Nat} {x y : Operand} (a b k l : Int) (r : Bool) (h : isTwo P t = true) (ho : o.op = .binOp .eql t x y t') (hx : ev σ x = some (.agg #[.int .i64 a, .int .i64 k])) (hy : ev σ y = some (.agg #[.int .i64 b, .int .i64 l]))
    (hr : (a == b && k == l) = r) (w : World) : Val P n σ o w (.bool r) := by
  intro ac ha
  subst hr
  obtain ⟨h1, h2⟩ := run_equal_two h a b k l w
  simp only [execOp, ho, ha.eval hx, ha.eval hy, Sem.run_bind, run_eqGuard_agg w .eql t _ _ _ _ h2, Result.andThen_ok, run_eql_struct, h1]
  simp
end
end E
end Go.Proofs.Ytmdjgejahnmfmae

/- Operations of code that gives up by a panic of its own, and is caught. -/
namespace Go.Proofs.Ytmdjgejahnmfmae
set_option maxRecDepth 20000
set_option maxHeartbeats 4000000
namespace E
open Go.Proofs

/-! ### Single operations -/
section
variable {P : Program} {T : Tbl} {n : Nat} {σ : Env} {o : Oper} {w : World}
/-- s[1:]. -/
theorem val_rest {t : TypeId} {x lo : Operand} {b q len cap sz : Nat} {k1 : IntKind} {i1 : Int} (hT : T.check P = true) (ho : o.op = .slice t x (some lo) none none) (hx : ev σ x = some (.slice (some ⟨b, q, none⟩) len cap))
    (h1 : ev σ lo = some (.int k1 i1)) (ht : find T.sl t = some sz) (e1 : i1 = 1) (hl : 1 ≤ len) (w : World) :
    Val P n σ o w (.slice (if cap = 1 then some ⟨b, q, none⟩ else some ⟨b, q + sz, none⟩) (len - 1) (cap - 1)) := by
  intro a ha
  subst e1
  have hs := Tbl.sl_ok hT ht
  unfold slOk at hs
  split at hs
  · rename_i e hu
    by_cases hc : cap = 1
    · simp [execOp, ho, ha.eval hx, ha.eval h1, Instr.sliceAt, Instr.slice, Instr.sliceBounds, Instr.sliceBound, asIntOf, run_underlying hu, sizeOk_run hs, hc]
      intro hh
      omega
    · simp [execOp, ho, ha.eval hx, ha.eval h1, Instr.sliceAt, Instr.slice, Instr.sliceBounds, Instr.sliceBound, asIntOf, run_underlying hu, sizeOk_run hs, hc, Addr.add_mid]
      intro hh
      omega
  · cases hs
def isStruct (P : Program) (t : Nat) : Bool :=
  match P.underlying t with
  | some (.struct _) => true
  | _ => false
theorem val_iface {t : TypeId} {x : Operand} {cs : Array Value} (hs : isStruct P t = true) (ho : o.op = .makeInterface t x) (hx : ev σ x = some (.agg cs)) (w : World) : Val P n σ o w (.iface t (.agg cs)) := by
  intro a ha
  unfold isStruct at hs
  split at hs
  · rename_i fs hu
    simp [execOp, ho, ha.eval hx, Instr.makeInterface, run_underlying hu]
  · cases hs
theorem opE_throw {x : Operand} {t : TypeId} {u : Value} {K Kp : Value → World → Prop} (ho : o.op = .panic x) (hx : ev σ x = some (.iface t u)) (hK : Kp (.iface t u) w) : OpE P n σ o w K Kp := by
  refine opE_panic (w' := w) (v := .iface t u) (fun a ha => ?_) hK
  simp [execOp, ho, ha.eval hx, Instr.panic, goPanic]
end

section
variable {P : Program} {n : Nat} {σ : Env} {o : Oper}
theorem val_assert {t xt : TypeId} {x : Operand} {u : Value} (hs : isStruct P t = true) (ho : o.op = .typeAssert x xt t false) (hx : ev σ x = some (.iface t u)) (w : World) : Val P n σ o w u := by
  intro a ha
  unfold isStruct at hs
  split at hs
  · rename_i fs hu
    simp [execOp, ho, ha.eval hx, Instr.typeAssert, run_underlying hu]
  · cases hs
end
theorem CallsD.mono' {P : Program} {f : FuncId} {args : Array Value} {u : FrameMode} {w : World} {R R' : Ending → FrameMode → World → Prop} (h : CallsD P f args u w R) (hr : ∀ e u' w', R e u' w' → R' e u' w') : CallsD P f args u w R' := fun c cs hc => by
  obtain ⟨e, u', w', fr, h1, h2⟩ := h c cs hc
  exact ⟨e, u', w', fr, hr e u' w' h1, h2⟩

end E
end Go.Proofs.Ytmdjgejahnmfmae

/- The landed package ideal: how a runner lies in memory; giving up; contracts of giveUp, truth, count, read, cell. -/
namespace Go.Proofs.Ytmdjgejahnmfmae
set_option maxRecDepth 20000
set_option maxHeartbeats 4000000
namespace E
open Go.Proofs

abbrev tRu : Nat := 105
theorem neRuL : tRu ≠ tLg := by decide
theorem size_rn : sizeOk Try.prog 3 1 = true := by kernel_rfl
theorem size_rl : sizeOk Try.prog 2 1 = true := by kernel_rfl
theorem size_rs : sizeOk Try.prog 26 1 = true := by kernel_rfl
/-- What the runner panics with. -/
def gvI (c : Nat) : Value := .iface 137 (.agg #[.int .i64 (c : Nat)])
theorem built_gI (a : Int) : Try.prog.built 137 [(0, .int .i64 a)] = some [Value.int .i64 a].toArray := by kernel_rfl
theorem iGiveUp_end (c : Nat) (w : World) : End Try.prog 108 [.int .i64 (c : Nat)] w (fun _ _ => False) (fun v w' => v = gvI c ∧ w' = w) := by
  refine end_of 5 Try.func108 rfl rfl (by simp) ?_
  refine au ?_
  refine pl_val _ rfl rfl (val_build _ rfl rfl (built_gI (c : Nat)) w) ?_
  refine pl_val _ rfl rfl (val_iface (by decide +kernel) rfl rfl w) ?_
  refine pl_opE Try.func108 rfl rfl (opE_throw rfl rfl ?_)
  exact ⟨rfl, rfl⟩
theorem iTruth_ret (t : Bool) (w : World) : Ret Try.prog 143 [.bool t] w fun r w' => r = .int .i64 (bitI t) ∧ w' = w := by
  refine ret_of 4 Try.func143 rfl rfl (by simp) ?_
  cases t
  · refine au ?_
    exact rn_ret Try.func143 (.inl ⟨_, rfl, rfl⟩) ⟨rfl, rfl⟩
  · refine au ?_
    exact rn_ret Try.func143 (.inl ⟨_, rfl, rfl⟩) ⟨rfl, rfl⟩

/-- What a run leaves alone: all blocks but those of numbers and of runners. -/
structure Rf (w w' : World) : Prop where
  size : w.heap.size ≤ w'.heap.size
  blk : ∀ {c : Nat} {L : List Value} {e : TypeId}, Blk w c L e → e ≠ tRu → e ≠ tLg → Blk w' c L e
theorem Rf.refl (w : World) : Rf w w := ⟨Nat.le_refl _, fun h _ _ => h⟩
theorem Rf.tr {w w' w'' : World} (h : Rf w w') (h' : Rf w' w'') : Rf w w'' := ⟨Nat.le_trans h.size h'.size, fun hb h1 h2 => h'.blk (h.blk hb h1 h2) h1 h2⟩
theorem Rf.of0 {w w' : World} (h : Keep [] w w') : Rf w w' := ⟨h.size, fun hb _ _ => h.blk hb (by simp)⟩
theorem Rf.of {w w' : World} {fp : List Nat} (h : Keep fp w w') (hf : ∀ k ∈ fp, ∃ L e, Blk w k L e ∧ (e = tRu ∨ e = tLg)) : Rf w w' :=
  ⟨h.size, fun hb h1 h2 => h.blk hb fun hm => by
    obtain ⟨L, e, hb', he⟩ := hf _ hm
    rcases he with he | he
    · exact Blk.ne hb hb' (fun h => h1 (h.trans he)) rfl
    · exact Blk.ne hb hb' (fun h => h2 (h.trans he)) rfl⟩

/-- What a runner is given: its program, input and fuel; where it lies, and its cells; the world in which it was not yet. -/
structure Kx where
  vs : List VarT
  bd : List ST
  F : Nat → Prop
  inp : List Int
  fuel : Nat
  w0 : World
  b : Nat
  vv : Value
  bv : Value
  cv : Value
structure Kx.Ok (C : Kx) : Prop where
  pr : ProgV C.F C.w0 (.agg #[C.vv, C.bv]) C.vs C.bd
  hF : In C.F C.w0
  sz : ∀ x ∈ C.vs, 1 ≤ x.2 ∧ x.2 ≤ 48
  vl : C.vs.length ≤ 8
  sum : sumV C.vs ≤ 48
  fu : C.fuel ≤ 3000
  il : C.inp.length ≤ 40
  ge : C.w0.heap.size ≤ C.b
theorem Kx.Ok.sized {C : Kx} (h : C.Ok) : Sized C.vs := ⟨by have := h.vl; omega, fun x hx => by have := h.sz x hx; omega⟩
/-- What of the input was not read. -/
def Un (w0 : World) (inp : List Int) (rd : Nat) (u : Value) : Prop :=
  ∃ a c, u = .slice a (inp.length - rd) c ∧ inp.length - rd ≤ c ∧ rd ≤ inp.length ∧ (rd < inp.length → ∃ g q, a = some ⟨g, q + rd, none⟩ ∧ g < w0.heap.size ∧ w0.rangeAt g q (lgs inp))
def ruC (C : Kx) (n : Nat) (u o : Value) : List Value := [.int .i64 (n : Nat), .int .i64 (C.fuel : Nat), C.vv, C.bv, u, C.cv, o]
/-- The runner as it is where s is. -/
structure Ru (C : Kx) (w : World) (u o : Value) (s : Es) : Prop where
  kp : Keep [] C.w0 w
  bk : Blk w C.b (ruC C s.n u o) tRu
  un : Un C.w0 C.inp s.read u
  rc : RowL w C.w0.heap.size C.cv s.cells
  ro : RowL w C.w0.heap.size o s.out
  ap : Apt C.cv o
  cl : (s.cells.length : Int) = sumV C.vs
  le : s.n ≤ C.fuel
  ol : s.out.length ≤ s.n
def Rt (C : Kx) (w : World) (s : Es) : Prop := ∃ u o, Ru C w u o s

section
variable {C : Kx} {w w1 w2 : World} {u o : Value} {s : Es}
theorem Ru.keep0 (h : Ru C w u o s) (hk : Keep [] w w1) : Ru C w1 u o s :=
  ⟨h.kp.tr hk, hk.blk h.bk (by simp), h.un, h.rc.keep hk (by simp), h.ro.keep hk (by simp), h.ap, h.cl, h.le, h.ol⟩
theorem Rt.keep0 (h : Rt C w s) (hk : Keep [] w w1) : Rt C w1 s := let ⟨u, o, h⟩ := h; ⟨u, o, h.keep0 hk⟩
theorem Rt.kp (h : Rt C w s) : Keep [] C.w0 w := let ⟨_, _, h⟩ := h; h.kp
theorem Rt.le (h : Rt C w s) : s.n ≤ C.fuel := let ⟨_, _, h⟩ := h; h.le
/-- Its own block alone has turned. -/
theorem Ru.put (hC : C.Ok) (h : Ru C w u o s) (hk : Keep [C.b] w w1) {u' : Value} {n rd : Nat} (hb : Blk w1 C.b (ruC C n u' o) tRu) (hu : Un C.w0 C.inp rd u') (hn : n ≤ C.fuel) (hn2 : s.n ≤ n) : Ru C w1 u' o { s with n := n, read := rd } ∧ Rf w w1 :=
  ⟨⟨h.kp.trB hk hC.ge, hb, hu, h.rc.keep hk (h.rc.ne h.bk neRuL), h.ro.keep hk (h.ro.ne h.bk neRuL), h.ap, h.cl, hn, Nat.le_trans h.ol hn2⟩, Rf.of hk fun k hm => ⟨ruC C s.n u o, tRu, by rw [List.mem_singleton.1 hm]; exact h.bk, .inl rfl⟩⟩
/-- A cell of it has turned. -/
theorem Ru.set (h : Ru C w u o s) {j : Nat} (hj : j < s.cells.length) {g cap : Nat} (hv : C.cv = .slice (some ⟨g, 0, none⟩) s.cells.length cap) : ∃ cur, Blk w g cur tLg ∧ j < cur.length ∧ ∀ {w' : World} {n : Int}, Keep [g] w w' → Blk w' g (splice cur j [.int .i64 n]) tLg → Ru C w' u o { s with cells := s.cells.set j n } ∧ Rf w w' := by
  obtain ⟨cur, h1, h2, h3⟩ := h.rc.set hj hv
  refine ⟨cur, h1, h2, fun {w' n} hk hb => ⟨⟨?_, hk.blk h.bk ?_, h.un, h3 hb, ?_, h.ap, by rw [List.length_set]; exact h.cl, h.le, h.ol⟩, Rf.of hk fun k hm => ⟨cur, tLg, by rw [List.mem_singleton.1 hm]; exact h1, .inr rfl⟩⟩⟩
  · refine h.kp.trans hk fun k hm => .inr ?_
    rw [List.mem_singleton.1 hm]
    exact (h.rc.lt g (by rw [hv]; simp [obs, Value.ownBlock])).1
  · simp only [List.mem_singleton]
    exact Blk.ne h.bk h1 neRuL
  · refine h.ro.keep hk fun k hk' hm => ?_
    rw [List.mem_singleton.1 hm] at hk'
    exact h.ap g (by rw [hv]; simp [obs, Value.ownBlock]) hk'
end

/-- It returns as X says, or gives up with X's code; where it is then. -/
def Gos {α : Type} (C : Kx) (f : Nat) (args : List Value) (w : World) (X : Ex α) (K : α → Value → World → Prop) : Prop :=
  End Try.prog f args w (fun r w' => ∃ a, X = .ok a ∧ K a r w' ∧ Rf w w') (fun v w' => ∃ e, X = .error e ∧ v = gvI e.1 ∧ Rt C w' e.2 ∧ Rf w w')
/-- What is called inside. -/
theorem gos_step {α β : Type} {C : Kx} {g : Nat} {args : List Value} {w w1 : World} {Y : Ex α} {T : Ex β} {k : α → Ex β} {K : α → Value → World → Prop} {KK : Value → World → Prop} (h : Gos C g args w1 Y K) (hX : T = bndX Y k) (hR : Rf w w1)
    (hk : ∀ a r w', T = k a → K a r w' → Rf w1 w' → Rf w w' → KK r w') : End Try.prog g args w1 KK (fun v w' => ∃ e, T = .error e ∧ v = gvI e.1 ∧ Rt C w' e.2 ∧ Rf w w') := by
  refine End.mono h ?_ ?_
  · rintro r w' ⟨a, rfl, h1, h2⟩
    exact hk a r w' hX h1 h2 (hR.tr h2)
  · rintro v w' ⟨e, rfl, h1, h2, h3⟩
    exact ⟨e, hX, h1, h2, hR.tr h3⟩
theorem bnd_id {α : Type} (X : Ex α) : X = bndX X Except.ok := by cases X <;> rfl

section
variable {C : Kx} {w : World} {u o : Value} {s : Es}
theorem iCount_end (hC : C.Ok) (h : Rt C w s) : Gos C 76 [.pointer (some ⟨C.b, 0, none⟩)] w (tick C.fuel s) fun s2 r w' => r = .tuple #[] ∧ s2 = { s with n := s.n + 1 } ∧ Rt C w' s2 := by
  obtain ⟨u, o, h⟩ := h
  have hle := h.le
  have hfu := hC.fu
  refine end_of 19 Try.func76 rfl rfl (by simp) ?_
  refine auj ?_
  refine rn_seq ?_
  refine rn_seq ?_
  refine rn_draw (fun w' => Keep [] w w') [] hMix ?_
  have hS : Keep [] w w.drew := (Keep.refl _ _).drew
  generalize w.drew = w2 at *
  refine tk 0 ?_
  refine tk 1 ?_
  refine tk 2 ?_
  refine dr_val 3 (.int .i64 (s.n : Nat)) rfl (by decide +kernel) rfl rfl (fun w9 hS9 => val_load1 hT rfl rfl rfl ((hS9.blk h.bk (by simp)).cell rfl)) hS ?_
  refine tk 4 ?_
  refine tk 5 ?_
  refine tk 6 ?_
  refine dr_val 7 (.int .i64 (C.fuel : Nat)) rfl (by decide +kernel) rfl rfl (fun w9 hS9 => val_load1 hT rfl rfl rfl ((hS9.blk h.bk (by simp)).cell rfl)) hS ?_
  have h2 := h.keep0 hS
  by_cases hlt : s.n < C.fuel
  · have hX : tick C.fuel s = .ok { s with n := s.n + 1 } := by unfold tick; rw [if_pos hlt]
    refine dno 8 ?_
    refine dr_done (by decide +kernel) ?_
    refine au ?_
    refine pl_val _ rfl rfl (val_load1 hT rfl rfl rfl (h2.bk.cell rfl)) ?_
    refine pl_num (((s.n + 1 : Nat) : Int)) rfl rfl rfl rfl rfl (by simp only [ariP]; omega) ?_
    refine au ?_
    refine pl_op rfl rfl (opTo_storeN [.int .i64 ((s.n + 1 : Nat) : Int)] rfl rfl rfl rfl size_rn h2.bk (by simp [ruC]) (one_in _) ?_)
    intro w3 hs3 hk3 hb3
    refine au ?_
    obtain ⟨h3, hR3⟩ := h2.put hC hk3 (n := s.n + 1) (rd := s.read) hb3 h2.un (by omega) (by omega)
    exact rn_end Try.func76 (.inr (.inl ⟨rfl, rfl⟩)) ⟨_, hX, ⟨rfl, rfl, u, o, h3⟩, (Rf.of0 hS).tr hR3⟩
  · have hX : tick C.fuel s = .error (13, s) := by unfold tick; rw [if_neg hlt]
    refine dye 8 ?_
    refine dr_done (by decide +kernel) ?_
    refine au ?_
    refine pl_opE Try.func76 rfl rfl (opE_call (fst := []) (cap := []) rfl rfl rfl rfl (by decide +kernel) ((iGiveUp_end 13 _).mono ?_ ?_))
    · intro v w' hf
      exact hf.elim
    · rintro v w' ⟨rfl, rfl⟩
      exact ⟨_, hX, rfl, ⟨u, o, h2⟩, Rf.of0 hS⟩

/-- A number of the input. -/
def readX (inp : List Int) (s : Es) : Ex (Int × Es) := if s.read < inp.length then .ok (inp.getD s.read 0, { s with read := s.read + 1 }) else .error (12, s)
theorem iRead_end (hC : C.Ok) (h : Rt C w s) : Gos C 128 [.pointer (some ⟨C.b, 0, none⟩)] w (readX C.inp s) fun a r w' => r = .int .i64 a.1 ∧ a.2 = { s with read := s.read + 1 } ∧ Rt C w' a.2 := by
  obtain ⟨u, o, h⟩ := h
  have hil := hC.il
  obtain ⟨a, c, rfl, hc, hrl, hat⟩ := h.un
  refine end_of 26 Try.func128 rfl rfl (by simp) ?_
  refine au ?_
  refine pl_val _ rfl rfl (val_load1 hT rfl rfl rfl (h.bk.cell rfl)) ?_
  refine au ?_
  by_cases hlt : s.read < C.inp.length
  · have hX : readX C.inp s = .ok (C.inp.getD s.read 0, { s with read := s.read + 1 }) := by unfold readX; rw [if_pos hlt]
    obtain ⟨g, q, rfl, hg, hra⟩ := hat hlt
    clear hat
    refine nay ?_
    refine au ?_
    refine pl_val _ rfl rfl (val_load1 hT rfl rfl rfl (h.bk.cell rfl)) ?_
    refine pl_val _ rfl rfl (val_index 0 hT rfl rfl rfl rfl rfl (by omega) w) ?_
    have hget : C.inp[s.read]? = some (C.inp.getD s.read 0) := by rw [List.getD_eq_getElem?_getD, List.getElem?_eq_getElem hlt]; rfl
    have hcell : w.cell? ⟨g, q + s.read, none⟩ = some (.int .i64 (C.inp.getD s.read 0)) := range_keep hra h.kp hg (by simp) s.read _ (lgs_at hget)
    refine pl_val _ rfl rfl (val_load1 hT rfl rfl rfl (hcell)) ?_
    refine au ?_
    refine pl_val _ rfl rfl (val_load1 hT rfl rfl rfl (h.bk.cell rfl)) ?_
    refine pl_val _ rfl rfl (val_rest hT rfl rfl rfl rfl rfl (by omega) w) ?_
    refine au ?_
    refine pl_op rfl rfl (opTo_storeN [.slice (if c = 1 then some ⟨g, q + s.read, none⟩ else some ⟨g, q + s.read + 1, none⟩) (C.inp.length - s.read - 1) (c - 1)] rfl rfl rfl rfl size_rs h.bk (by simp [ruC]) (one_v rfl) ?_)
    intro w3 hs3 hk3 hb3
    refine au ?_
    have hu : Un C.w0 C.inp (s.read + 1) (.slice (if c = 1 then some ⟨g, q + s.read, none⟩ else some ⟨g, q + s.read + 1, none⟩) (C.inp.length - s.read - 1) (c - 1)) :=
      ⟨if c = 1 then some ⟨g, q + s.read, none⟩ else some ⟨g, q + s.read + 1, none⟩, c - 1, by rw [show C.inp.length - (s.read + 1) = C.inp.length - s.read - 1 by omega], by omega, by omega, fun h1 => ⟨g, q, by rw [if_neg (by omega)]; rfl, hg, hra⟩⟩
    obtain ⟨h3, hR3⟩ := h.put hC hk3 (n := s.n) (rd := s.read + 1) hb3 hu h.le (Nat.le_refl _)
    exact rn_ret Try.func128 (.inl ⟨_, rfl, rfl⟩) ⟨_, hX, ⟨rfl, rfl, _, o, h3⟩, hR3⟩
  · have hX : readX C.inp s = .error (12, s) := by unfold readX; rw [if_neg hlt]
    refine ye ?_
    refine au ?_
    refine pl_opE Try.func128 rfl rfl (opE_call (fst := []) (cap := []) rfl rfl rfl rfl (by decide +kernel) ((iGiveUp_end 12 _).mono ?_ ?_))
    · intro v w' hf
      exact hf.elim
    · rintro v w' ⟨rfl, rfl⟩
      exact ⟨_, hX, rfl, ⟨_, o, h⟩, Rf.refl _⟩
end
end E
end Go.Proofs.Ytmdjgejahnmfmae
