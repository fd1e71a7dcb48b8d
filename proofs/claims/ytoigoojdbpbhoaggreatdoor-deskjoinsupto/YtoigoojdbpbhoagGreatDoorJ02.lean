/- Texts TbP TokM TokS TkA LdS TkB DkW DkS TreeA CodeM CmM ChkI CmN BeM EvM LiM EvN EvO IdM LzM Rd TreeV Res2 Step CmR. -/
import Derived.Test.YtoigoojdbpbhoagGreatDoorProg
import Derived.Test.YtoigoojdbpbhoagGreatDoorJ00
import Derived.Lib.ParseIntBTie
import Derived.Lib.ParseIntBCases
import Derived.Lib.ItoaLen
import Derived.Lib.LaidTab
import Derived.Test.YtoigoojdbpbhoagGreatDoorSShelf
import Derived.Lib.SmallJoins
import Derived.Lib.FieldsP
import Derived.Shelf.Strings.FieldsFuncAny
import Derived.Shelf.Strings.OnBuilder
import Derived.Shelf.Small.Wraps
import Derived.Shelf.Strings.Search3
import Derived.Deep.Slices
import Derived.OpenShut
namespace Go.Proofs.YtoigoojdbpbhoagGreatDoor
set_option maxRecDepth 20000
set_option maxHeartbeats 4000000
namespace E
section
open Go.Proofs
def tbl : Tbl := { fld := [(30, [(0, 0), (1, 1), (2, 2), (3, 3)]), (31, [(0, 0), (1, 1), (2, 2), (3, 3)]), (33, [(0, 0), (1, 1)]), (34, [(0, 0), (1, 1)]), (44, [(0, 0), (1, 1), (2, 2)]), (45, [(0, 0), (1, 1), (2, 2)]), (49, [(0, 0), (1, 1)]), (50, [(0, 0), (1, 1)]), (51, [(0, 0)]), (52, [(0, 0)]), (53, [(0, 0), (1, 1)]), (54, [(0, 0), (1, 1)]), (74, [(0, 0), (1, 1)]), (75, [(0, 0), (1, 1)]), (80, [(0, 0), (1, 1), (2, 2)]), (81, [(0, 0), (1, 1), (2, 2)]), (87, [(0, 0), (1, 1), (2, 2), (3, 3)]), (88, [(0, 0), (1, 1), (2, 2), (3, 3)]), (92, [(0, 0), (1, 1)]), (93, [(0, 0), (1, 1)]), (100, [(0, 0), (1, 1), (2, 2), (3, 3)]), (101, [(0, 0), (1, 1), (2, 2), (3, 3)]), (116, [(0, 0), (1, 1), (2, 2), (3, 3), (4, 4), (5, 5)]), (117, [(0, 0), (1, 1), (2, 2), (3, 3), (4, 4), (5, 5)]), (121, [(0, 0), (1, 1), (2, 2), (3, 8), (4, 14), (5, 15)]), (122, [(0, 0), (1, 1), (2, 2), (3, 8), (4, 14), (5, 15)]), (134, [(0, 0), (1, 1), (2, 2), (3, 3), (4, 5)]), (135, [(0, 0), (1, 1), (2, 2), (3, 3), (4, 5)]), (136, [(0, 0), (1, 1)]), (137, [(0, 0), (1, 1)]), (140, [(0, 0), (1, 1), (2, 2), (3, 3)]), (141, [(0, 0), (1, 1), (2, 2), (3, 3)]), (142, [(0, 0), (1, 1), (2, 2), (3, 6), (4, 10), (5, 11)]), (143, [(0, 0), (1, 1), (2, 2), (3, 6), (4, 10), (5, 11)]), (147, [(0, 0), (1, 1), (2, 2), (3, 3)]), (148, [(0, 0), (1, 1), (2, 2), (3, 3)]), (165, [(0, 0), (1, 1), (2, 2), (3, 3), (4, 4), (5, 5)]), (166, [(0, 0), (1, 1), (2, 2), (3, 3), (4, 4), (5, 5)]), (180, [(0, 0), (1, 1), (2, 2), (3, 3)]), (181, [(0, 0), (1, 1), (2, 2), (3, 3)]), (190, [(0, 0), (1, 2), (2, 3)]), (191, [(0, 0), (1, 2), (2, 3)]), (205, [(0, 0), (1, 1)]), (206, [(0, 0), (1, 1)]), (208, [(0, 0), (1, 1)]), (209, [(0, 0), (1, 1)]), (210, [(0, 0), (1, 2), (2, 4), (3, 5), (4, 6)]), (211, [(0, 0), (1, 2), (2, 4), (3, 5), (4, 6)]), (214, [(0, 0), (1, 1), (2, 2), (3, 3), (4, 4), (5, 5)]), (215, [(0, 0), (1, 1), (2, 2), (3, 3), (4, 4), (5, 5)]), (223, [(0, 0), (1, 1), (2, 2)]), (224, [(0, 0), (1, 1), (2, 2)]), (231, [(0, 0), (1, 1), (2, 2), (3, 3)]), (234, [(0, 0)]), (235, [(0, 0)]), (237, [(0, 0), (1, 1), (2, 2)]), (238, [(0, 0), (1, 1), (2, 2)]), (242, [(0, 0), (1, 1), (2, 2), (3, 3), (4, 4)]), (243, [(0, 0), (1, 1), (2, 2), (3, 3), (4, 4)]), (246, [(0, 0)]), (247, [(0, 0)]), (248, [(0, 0), (1, 1)]), (249, [(0, 0), (1, 1)]), (252, [(0, 0), (1, 1), (2, 2), (3, 3)]), (257, [(0, 0), (1, 272)]), (258, [(0, 0), (1, 272)]), (263, [(0, 0)]), (264, [(0, 0)]), (267, [(0, 0)]), (268, [(0, 0)]), (282, [(0, 0), (1, 1), (2, 113)]), (283, [(0, 0), (1, 1), (2, 113)]), (285, [(0, 0)]), (286, [(0, 0)]), (309, [(0, 0), (1, 1), (2, 3)]), (310, [(0, 0), (1, 1), (2, 3)]), (319, [(0, 0), (1, 1)]), (320, [(0, 0), (1, 1)]), (336, [(0, 0), (1, 1)]), (337, [(0, 0), (1, 1)]), (341, [(0, 0), (1, 1), (2, 18), (3, 52)]), (342, [(0, 0), (1, 1), (2, 18), (3, 52)]), (361, [(0, 0), (1, 1), (2, 2), (3, 3), (4, 4), (5, 5), (6, 6), (7, 7), (8, 8), (9, 9), (10, 10)])], sl := [(22, 1), (28, 1), (32, 1), (48, 1), (72, 2), (73, 12), (91, 2), (96, 4), (118, 4), (130, 4), (139, 4), (163, 4), (197, 4), (256, 9), (304, 8), (329, 9), (340, 1)], ar := [(169, (24, 1)), (219, (20, 1)), (220, (65, 1)), (253, (8, 1)), (254, (8, 1)), (255, (34, 8)), (280, (112, 1)), (281, (14, 1)), (293, (32, 1)), (294, (64, 1)), (307, (2, 1)), (308, (14, 1)), (332, (8, 1)), (339, (34, 1)), (346, (9, 1)), (353, (0, 1))], one := [(1, ()), (2, ()), (3, ()), (4, ()), (5, ()), (6, ()), (9, ()), (10, ()), (11, ()), (12, ()), (15, ()), (16, ()), (17, ()), (21, ()), (22, ()), (23, ()), (24, ()), (25, ()), (26, ()), (27, ()), (28, ()), (29, ()), (32, ()), (36, ()), (37, ()), (38, ()), (39, ()), (40, ()), (41, ()), (42, ()), (43, ()), (46, ()), (47, ()), (48, ()), (55, ()), (56, ()), (57, ()), (58, ()), (59, ()), (60, ()), (62, ()), (63, ()), (64, ()), (65, ()), (66, ()), (67, ()), (68, ()), (70, ()), (71, ()), (72, ()), (73, ()), (77, ()), (78, ()), (79, ()), (83, ()), (84, ()), (85, ()), (86, ()), (89, ()), (90, ()), (91, ()), (95, ()), (96, ()), (97, ()), (98, ()), (99, ()), (102, ()), (103, ()), (104, ()), (108, ()), (109, ()), (110, ()), (112, ()), (114, ()), (115, ()), (118, ()), (119, ()), (120, ()), (123, ()), (124, ()), (125, ()), (126, ()), (127, ()), (128, ()), (129, ()), (130, ()), (132, ()), (133, ()), (138, ()), (139, ()), (144, ()), (145, ()), (146, ()), (149, ()), (150, ()), (151, ()), (152, ()), (153, ()), (155, ()), (157, ()), (159, ()), (160, ()), (161, ()), (162, ()), (163, ()), (164, ()), (168, ()), (170, ()), (171, ()), (173, ()), (174, ()), (176, ()), (177, ()), (178, ()), (179, ()), (182, ()), (183, ()), (184, ()), (185, ()), (186, ()), (187, ()), (188, ()), (189, ()), (192, ()), (193, ()), (194, ()), (196, ()), (197, ()), (199, ()), (200, ()), (202, ()), (203, ()), (204, ()), (207, ()), (212, ()), (213, ()), (216, ()), (217, ()), (218, ()), (221, ()), (222, ()), (225, ()), (226, ()), (227, ()), (228, ()), (229, ()), (230, ()), (233, ()), (236, ()), (239, ()), (240, ()), (241, ()), (244, ()), (245, ()), (250, ()), (251, ()), (256, ()), (259, ()), (260, ()), (261, ()), (262, ()), (265, ()), (266, ()), (269, ()), (270, ()), (271, ()), (272, ()), (273, ()), (274, ()), (275, ()), (276, ()), (277, ()), (278, ()), (279, ()), (284, ()), (287, ()), (288, ()), (289, ()), (290, ()), (291, ()), (292, ()), (295, ()), (296, ()), (297, ()), (299, ()), (300, ()), (301, ()), (302, ()), (303, ()), (304, ()), (305, ()), (306, ()), (311, ()), (313, ()), (314, ()), (315, ()), (316, ()), (317, ()), (318, ()), (321, ()), (322, ()), (323, ()), (324, ()), (325, ()), (326, ()), (328, ()), (329, ()), (330, ()), (331, ()), (333, ()), (334, ()), (335, ()), (338, ()), (340, ()), (343, ()), (344, ()), (345, ()), (347, ()), (348, ()), (349, ()), (350, ()), (356, ()), (357, ()), (358, ()), (359, ()), (360, ())], ag := [(30, 4), (31, 4), (33, 2), (34, 2), (44, 3), (45, 3), (49, 2), (50, 2), (51, 2), (52, 2), (53, 3), (54, 3), (74, 2), (75, 2), (80, 3), (81, 3), (87, 4), (88, 4), (92, 2), (93, 2), (100, 4), (101, 4), (116, 6), (117, 6), (121, 16), (122, 16), (134, 6), (135, 6), (136, 2), (137, 2), (140, 4), (141, 4), (142, 12), (143, 12), (147, 4), (148, 4), (165, 6), (166, 6), (169, 24), (180, 4), (181, 4), (190, 4), (191, 4), (205, 2), (206, 2), (208, 2), (209, 2), (210, 7), (211, 7), (214, 6), (215, 6), (219, 20), (220, 65), (223, 3), (224, 3), (231, 4), (234, 2), (235, 2), (237, 3), (238, 3), (242, 5), (243, 5), (246, 1), (247, 1), (248, 3), (249, 3), (252, 4), (253, 8), (254, 8), (255, 272), (257, 273), (258, 273), (263, 1), (264, 1), (267, 1), (268, 1), (280, 112), (281, 14), (282, 127), (283, 127), (285, 1), (286, 1), (293, 32), (294, 64), (307, 2), (308, 14), (309, 17), (310, 17), (319, 9), (320, 9), (332, 8), (336, 9), (337, 9), (339, 34), (341, 53), (342, 53), (346, 9), (353, 0), (361, 11)] }
theorem hT : tbl.check Tryz.prog = true := by decide +kernel
theorem hMix : Tryz.prog.follows .mixedOrders = true := by decide +kernel
end
section
open Go.Lib
def dig (c : UInt8) : Bool := decide (48 ≤ c.toNat) && decide (c.toNat ≤ 57)
theorem dig_iff (c : UInt8) : dig c = true ↔ 48 ≤ c.toNat ∧ c.toNat ≤ 57 := by simp [dig]
theorem ofNat_toNat48 (k : Nat) (h : k < 10) : (UInt8.ofNat (48 + k)).toNat = 48 + k := by
 rw [UInt8.toNat_ofNat']
 omega
theorem decDigits_ne (u : Nat) : decDigits u ≠ [] := by
 intro h
 have h1 := decDigits_length u
 have h2 := nDigits_pos u
 rw [h] at h1
 simp only [List.length_nil] at h1
 omega
theorem decDigits_digs (u : Nat) : (decDigits u).all dig = true := by
 induction u using Nat.strongRecOn with
 | _ u ih =>
  rw [decDigits]
  split
  ·rename_i h
   rw [List.all_cons, Bool.and_eq_true]
   refine ⟨(dig_iff _).2 ?_, rfl⟩
   rw [ofNat_toNat48 _ h]; omega
  ·rename_i h
   rw [List.all_append, Bool.and_eq_true, List.all_cons, Bool.and_eq_true]
   refine ⟨ih _ (by omega), (dig_iff _).2 ?_, rfl⟩
   rw [ofNat_toNat48 _ (by omega)]; omega
def longOf (l : List UInt8) : Option Int :=
 match parseIntB 64 l with
 | .ok v => if itoa v = l then some v else none
 | _ => none
theorem longOf_some {l : List UInt8} {v : Int} (h : longOf l = some v) : itoa v = l ∧ -9223372036854775808 ≤ v ∧ v ≤ 9223372036854775807 ∧ parseIntB 64 l = .ok v := by
 unfold longOf at h
 split at h
 ·rename_i u hu
  split at h
  ·rename_i he
   injection h with h
   subst h
   have hb := parseIntB_bounds hu
   refine ⟨he, ?_, ?_, hu⟩
   ·have := hb.1; simpa using this
   ·have := hb.2
    have h2 : ((2 ^ (64 - 1) : Nat) : Int) = 9223372036854775808 := by decide
    omega
  ·cases h
 ·cases h
end
section
open Go.Lib
structure Tok where
 pos : Nat
 text : List UInt8
 num : Bool
 val : Int
def blankB (c : UInt8) : Bool := c == 32 || c == 9 || c == 10 || c == 13
def parenB (c : UInt8) : Bool := c == 40 || c == 41
def letB (c : UInt8) : Bool := decide (97 ≤ c.toNat) && decide (c.toNat ≤ 122)
inductive Bit where
 | bad
 | skip
 | tok (text : List UInt8) (num : Bool) (val : Int)
def bit (c : UInt8) (r : List UInt8) : Bit :=
  if blankB c then .skip
  else if parenB c then .tok [c] false 0
  else if letB c then .tok (c :: r.takeWhile letB) false 0
  else if dig c || c == 45 then
    (match longOf (c :: r.takeWhile dig) with
     | some v => .tok (c :: r.takeWhile dig) true v
     | none => .bad)
  else .bad
def toks : Nat → Nat → List UInt8 → Except Nat (List Tok)
 | _, _, [] => .ok []
 | 0, pos, _ :: _ => .error pos
 | f + 1, pos, c :: r =>
  match bit c r with
  | .bad => .error pos
  | .skip => toks f (pos + 1) r
  | .tok t b v =>
   match toks f (pos + t.length) ((c :: r).drop t.length) with
   | .error e => .error e
   | .ok l => .ok (⟨pos, t, b, v⟩ :: l)
def scanOf (l : List UInt8) : Except Nat (List Tok) := toks l.length 0 l
theorem bit_tok {c : UInt8} {r : List UInt8} {t : List UInt8} {b : Bool} {v : Int} (h : bit c r = .tok t b v) : ∃ u q, t = c :: u ∧ r = u ++ q ∧ blankB c = false := by
 unfold bit at h
 split at h
 ·cases h
 rename_i hb
 have hb : blankB c = false := by simpa using hb
 split at h
 ·injection h with h1 h2 h3
  exact ⟨[], r, h1.symm, rfl, hb⟩
 split at h
 ·injection h with h1 h2 h3
  exact ⟨_, _, h1.symm, (List.takeWhile_append_dropWhile (p := letB) (l := r)).symm, hb⟩
 split at h
 ·split at h
  ·injection h with h1 h2 h3
   exact ⟨_, _, h1.symm, (List.takeWhile_append_dropWhile (p := dig) (l := r)).symm, hb⟩
  ·cases h
 ·cases h
theorem toks_fuel : ∀ (f g pos : Nat) (l : List UInt8), l.length ≤ f → l.length ≤ g → toks f pos l = toks g pos l
 | 0, 0, _, _, _, _ => rfl
 | 0, g + 1, _, [], _, _ => rfl
 | 0, g + 1, _, _ :: _, h, _ => by simp at h
 | f + 1, 0, _, [], _, _ => rfl
 | f + 1, 0, _, _ :: _, _, h => by simp at h
 | f + 1, g + 1, _, [], _, _ => rfl
 | f + 1, g + 1, pos, c :: r, hf, hg => by
  simp only [List.length_cons] at hf hg
  simp only [toks]
  cases hb : bit c r with
  | bad => rfl
  | skip => exact toks_fuel f g _ r (by omega) (by omega)
  | tok t b v =>
   have ⟨u, q, h1, h2, _⟩ := bit_tok hb
   subst h1
   have hl : ((c :: r).drop (c :: u).length).length ≤ r.length := by
    rw [List.length_drop]
    simp only [List.length_cons]
    omega
   simp only [toks_fuel f g (pos + (c :: u).length) ((c :: r).drop (c :: u).length) (by omega) (by omega)]
theorem toks_bad {f pos : Nat} {c : UInt8} {r : List UInt8} (h : bit c r = .bad) (hf : (c :: r).length ≤ f) : toks f pos (c :: r) = .error pos := by
 cases f with
 | zero => rfl
 | succ f => simp only [toks, h]
theorem toks_skip {f pos : Nat} {c : UInt8} {r : List UInt8} (h : bit c r = .skip) (hf : (c :: r).length ≤ f) : toks f pos (c :: r) = toks f (pos + 1) r := by
 cases f with
 | zero => simp at hf
 | succ f =>
  simp only [List.length_cons] at hf
  simp only [toks, h]
  exact toks_fuel _ _ _ _ (by omega) (by omega)
theorem toks_tok {f pos : Nat} {c : UInt8} {r t : List UInt8} {b : Bool} {v : Int} (h : bit c r = .tok t b v) (hf : (c :: r).length ≤ f) :
  toks f pos (c :: r) = (match toks f (pos + t.length) ((c :: r).drop t.length) with | .error e => .error e | .ok l => .ok (⟨pos, t, b, v⟩ :: l)) := by
 cases f with
 | zero => simp at hf
 | succ f =>
  simp only [List.length_cons] at hf
  have ⟨u, q, h1, h2, _⟩ := bit_tok h
  subst h1
  have hl : ((c :: r).drop (c :: u).length).length ≤ r.length := by
   rw [List.length_drop]
   simp only [List.length_cons]
   omega
  have e := toks_fuel f (f + 1) (pos + (c :: u).length) ((c :: r).drop (c :: u).length) (by omega) (by omega)
  rw [← e]
  simp only [toks, h]
def putT (acc : List Tok) : Except Nat (List Tok) → Except Nat (List Tok)
 | .error e => .error e
 | .ok l => .ok (acc ++ l)
theorem putT_nil (x : Except Nat (List Tok)) : putT [] x = x := by cases x <;> rfl
theorem putT_tok {f pos : Nat} {c : UInt8} {r t : List UInt8} {b : Bool} {v : Int} (acc : List Tok) (h : bit c r = .tok t b v) (hf : (c :: r).length ≤ f) :
  putT acc (toks f pos (c :: r)) = putT (acc ++ [⟨pos, t, b, v⟩]) (toks f (pos + t.length) ((c :: r).drop t.length)) := by
 rw [toks_tok h hf]
 cases toks f (pos + t.length) ((c :: r).drop t.length) with
 | error e => rfl
 | ok l => simp [putT]
def joined : List Tok → List UInt8
 | [] => []
 | t :: r => t.text ++ 32 :: 10 :: joined r
def fine : List Tok → Prop
 | [] => True
 | t :: r => (∃ c u r0, t.text = c :: u ∧ bit c r0 = .tok (c :: u) t.num t.val) ∧ fine r
def textLen : List Tok → Nat
 | [] => 0
 | t :: r => t.text.length + textLen r
theorem toks_fine : ∀ (f pos : Nat) (l : List UInt8) (ts : List Tok), toks f pos l = .ok ts → fine ts ∧ textLen ts ≤ l.length
 | f, pos, [], ts, h => by
  have h2 : ts = [] := by
   cases f <;> (simp only [toks] at h; injection h with h; exact h.symm)
  subst h2
  exact ⟨trivial, Nat.zero_le _⟩
 | 0, _, _ :: _, _, h => by simp only [toks] at h; cases h
 | f + 1, pos, c :: r, ts, h => by
  simp only [toks] at h
  cases hb : bit c r with
  | bad => rw [hb] at h; cases h
  | skip =>
   rw [hb] at h
   have ⟨h1, h2⟩ := toks_fine f _ r ts h
   exact ⟨h1, by simp only [List.length_cons]; omega⟩
  | tok t b v =>
   rw [hb] at h
   simp only at h
   cases hr : toks f (pos + t.length) ((c :: r).drop t.length) with
   | error e => rw [hr] at h; cases h
   | ok l =>
    rw [hr] at h
    injection h with h
    subst h
    have ⟨h1, h2⟩ := toks_fine f _ _ l hr
    have ⟨u, q, h3, h4, _⟩ := bit_tok hb
    subst h3
    refine ⟨⟨⟨c, u, r, rfl, hb⟩, h1⟩, ?_⟩
    rw [List.length_drop] at h2
    have h5 : (c :: u).length ≤ (c :: r).length := by
     rw [h4]; simp only [List.length_cons, List.length_append]; omega
    show (c :: u).length + textLen l ≤ (c :: r).length
    omega
theorem bit_blank (c : UInt8) (r : List UInt8) (h : blankB c = true) : bit c r = .skip := by
 unfold bit; rw [if_pos h]
end
section
open Go.Proofs
theorem beqU (c d : UInt8) : (c == d) = decide (c.toNat = d.toNat) := by
 rw [Bool.eq_iff_iff]
 simp [← UInt8.toNat_inj]
theorem blank_n (c : UInt8) : blankB c = (decide (c.toNat = 32) || decide (c.toNat = 9) || decide (c.toNat = 10) || decide (c.toNat = 13)) := by
 unfold blankB
 simp only [beqU]
 rfl
theorem paren_n (c : UInt8) : parenB c = (decide (c.toNat = 40) || decide (c.toNat = 41)) := by
 unfold parenB
 simp only [beqU]
 rfl
theorem dash_n (c : UInt8) : (c == 45) = decide (c.toNat = 45) := beqU c 45
theorem isBlank_ret (c : UInt8) (w : World) : Ret Tryz.prog 162 [.int .u8 (c.toNat : Nat)] w fun r w' => r = .bool (blankB c) ∧ w' = w := by
 refine ret_of 17 Tryz.func162 rfl rfl (by simp) ?_
 by_cases h1 : c.toNat = 32
 ·refine aub ?_
  exact rn_ret Tryz.func162 (.inl ⟨_, rfl, rfl⟩) ⟨by simp [blank_n, h1], rfl⟩
 by_cases h2 : c.toNat = 9
 ·refine aub ?_
  exact rn_ret Tryz.func162 (.inl ⟨_, rfl, rfl⟩) ⟨by simp [blank_n, h2], rfl⟩
 by_cases h3 : c.toNat = 10
 ·refine aub ?_
  exact rn_ret Tryz.func162 (.inl ⟨_, rfl, rfl⟩) ⟨by simp [blank_n, h3], rfl⟩
 by_cases h4 : c.toNat = 13
 ·refine aub ?_
  exact rn_ret Tryz.func162 (.inl ⟨_, rfl, rfl⟩) ⟨by simp [blank_n, h4], rfl⟩
 ·refine aub ?_
  exact rn_ret Tryz.func162 (.inl ⟨_, rfl, rfl⟩) ⟨by simp [blank_n, h1, h2, h3, h4], rfl⟩
theorem isLetter_ret (c : UInt8) (w : World) : Ret Tryz.prog 188 [.int .u8 (c.toNat : Nat)] w fun r w' => r = .bool (letB c) ∧ w' = w := by
 refine ret_of 9 Tryz.func188 rfl rfl (by simp) ?_
 by_cases h1 : 97 ≤ c.toNat
 ·by_cases h2 : c.toNat ≤ 122
  ·refine aub ?_
   exact rn_ret Tryz.func188 (.inl ⟨_, rfl, rfl⟩) ⟨by simp [letB, h1, h2], rfl⟩
  ·refine aub ?_
   exact rn_ret Tryz.func188 (.inl ⟨_, rfl, rfl⟩) ⟨by simp [letB, h2], rfl⟩
 ·refine aub ?_
  exact rn_ret Tryz.func188 (.inl ⟨_, rfl, rfl⟩) ⟨by simp [letB, h1], rfl⟩
theorem isDigit_ret (c : UInt8) (w : World) : Ret Tryz.prog 190 [.int .u8 (c.toNat : Nat)] w fun r w' => r = .bool (dig c) ∧ w' = w := by
 refine ret_of 9 Tryz.func190 rfl rfl (by simp) ?_
 by_cases h1 : 48 ≤ c.toNat
 ·by_cases h2 : c.toNat ≤ 57
  ·refine aub ?_
   exact rn_ret Tryz.func190 (.inl ⟨_, rfl, rfl⟩) ⟨by simp [dig, h1, h2], rfl⟩
  ·refine aub ?_
   exact rn_ret Tryz.func190 (.inl ⟨_, rfl, rfl⟩) ⟨by simp [dig, h2], rfl⟩
 ·refine aub ?_
  exact rn_ret Tryz.func190 (.inl ⟨_, rfl, rfl⟩) ⟨by simp [dig, h1], rfl⟩
theorem take_step {p : UInt8 → Bool} {l : List UInt8} {i : Nat} (hi : i < l.length) : (l.drop i).takeWhile p = if p l[i] = true then l[i] :: (l.drop (i + 1)).takeWhile p else [] := by
 rw [List.drop_eq_getElem_cons hi]
 split
 ·rename_i h; rw [List.takeWhile_cons_of_pos h]
 ·rename_i h; rw [List.takeWhile_cons_of_neg h]
theorem run_ret (g : Nat) (p : UInt8 → Bool) (hg : callable Tryz.prog g = true) (hp : ∀ (c : UInt8) (w : World), Ret Tryz.prog g [.int .u8 (c.toNat : Nat)] w fun r w' => r = .bool (p c) ∧ w' = w) (l : List UInt8) (hl : l.length ≤ 1000000) (w : World) :
  Ret Tryz.prog 189 [.string (str l), .func (.func g) #[] #[]] w fun r w' => r = .int .i64 ((l.takeWhile p).length : Nat) ∧ w' = w := by
 refine ret_of 20 Tryz.func189 rfl rfl (by simp) ?_
 refine au ?_
 refine rn_ind (fun m σ w' => ∃ i : Nat, i ≤ l.length ∧ m = l.length - i ∧ σ = [(0, .string (str l)), (1, .func (.func g) #[] #[]), (5, .int .i64 (i : Nat))] ∧ (l.takeWhile p).length = i + ((l.drop i).takeWhile p).length ∧ w' = w) l.length _ ?_ ⟨0, by omega, by omega, rfl, by simp, rfl⟩ ?_
 ·exact ⟨rfl, rfl, rfl, trivial⟩
 rintro m σ w2 ih ⟨i, hi, rfl, rfl, ht, rfl⟩
 refine au ?_
 refine pl_val _ rfl rfl (val_len l (by decide +kernel) rfl rfl w2) ?_
 by_cases hlt : i < l.length
 ·refine ye ?_
  refine au ?_
  refine pl_val _ rfl rfl (val_byte l i l[i] (by decide +kernel) rfl rfl rfl rfl (List.getElem?_eq_getElem hlt) w2) ?_
  refine pl_op rfl rfl (opTo_call (fst := []) (cap := []) rfl rfl rfl rfl hg ((hp l[i] w2).mono ?_))
  rintro v w3 ⟨rfl, rfl⟩
  rw [take_step hlt] at ht
  cases hpb : p l[i] with
  | true =>
   rw [hpb, if_pos rfl, List.length_cons] at ht
   refine nM ((i + 1 : Nat) : Int) ?_
   refine au ?_
   refine rn_sub ?_ (ih _ _ _ ?_ ⟨i + 1, hlt, rfl, rfl, by omega, rfl⟩)
   ·exact ⟨rfl, rfl, rfl, trivial⟩
   ·omega
  | false =>
   rw [hpb, if_neg (by decide), List.length_nil] at ht
   refine au ?_
   exact rn_ret Tryz.func189 (.inl ⟨_, rfl, rfl⟩) ⟨by rw [ht]; rfl, rfl⟩
 ·refine nay ?_
  refine au ?_
  have e : i = l.length := by omega
  rw [e, List.drop_length] at ht
  exact rn_ret Tryz.func189 (.inl ⟨_, rfl, rfl⟩) ⟨by rw [ht, e]; rfl, rfl⟩
end
section
open Go.Lib
def strData {H : Type} (zs : List (List UInt8)) : DataW H := .agg (zs.map fun z => .lit (.string z))
def StrIs (P : Program) (w : World) (name : String) (zs : List (List UInt8)) : Prop := w.var? P name = some (zs.map fun z => Value.string (str z)).toArray
theorem cells_of_strs {H : Type} {enc : TypeId × Value → H} {P : Program} {w : World} {base : Nat} {sp : Nat → Bool} {held : Bool} {fuel : Nat} {t e : TypeId} {n : Nat} {cs : List Value} {zs : List (List UInt8)} {p : List MemPlace}
  (ht : P.underlying t = some (.array n e)) (he : P.underlying e = some .string) (hce : P.cellsOf e = 1) (hct : P.cellsOf t = n)
  (h : DataW.trod enc P w base sp held fuel t cs = some (strData zs, p)) : cs = zs.map fun z => Value.string (str z) := by
 cases fuel with
 | zero => simp [DataW.trod] at h
 | succ fuel =>
  simp only [DataW.trod, ht, hce, hct, Nat.mul_one] at h
  split at h
  ·rename_i hl
   obtain ⟨xs, hm, hx⟩ := Option.map_eq_some_iff.1 h
   have hxs : xs.map (·.1) = zs.map fun z => (DataW.lit (.string z) : DataW H) := by
    have := congrArg Prod.fst hx
    simpa [strData] using this
   have hxl : xs.length = n := by simpa using mapM_length hm
   have hzl : zs.length = n := by
    have := congrArg List.length hxs
    simp at this
    omega
   apply List.ext_getElem?
   intro i
   by_cases hi : i < n
   ·obtain ⟨b, hb, hf⟩ := mapM_at hm i i (by simp [hi])
    obtain ⟨s, hc, hbe, _⟩ := DataW.trod_string he hf
    have h1 : cs[i]? = some (.string s) := by
     have := congrArg (·[0]?) hc
     simpa [List.getElem?_take, List.getElem?_drop] using this
    have h2 : (xs.map (·.1))[i]? = some (DataW.lit (.string s.data.toList) : DataW H) := by simp [hb, hbe]
    rw [hxs] at h2
    simp only [List.getElem?_map, Option.map_eq_some_iff, DataW.lit.injEq, Lit.string.injEq] at h2
    obtain ⟨z', hz', he'⟩ := h2
    rw [h1, List.getElem?_map, hz', he', Option.map_some, str_data]
   ·rw [List.getElem?_eq_none (by omega), List.getElem?_eq_none (by simp; omega)]
  ·cases h
theorem strIs_of_head {P : Program} {W : World} {name : String} {zs : List (List UInt8)} {rest : List (String × DataW Unit)} {g : Nat} {t e : TypeId} {n : Nat}
  (hg : P.globalNamed name = some g) (hty : (P.globals[g]?).map (·.type) = some t) (ht : P.underlying t = some (.array n e)) (he : P.underlying e = some .string) (hce : P.cellsOf e = 1) (hct : P.cellsOf t = n)
  (h : laidMet P ((name, strData zs) :: rest) W) : StrIs P W name zs := by
 obtain ⟨ps, ⟨g', t', cs, fuel, p, q, hg', ht', hvar, hd, _, _⟩, _⟩ := h
 obtain rfl := Option.some.inj (hg.symm.trans hg')
 obtain rfl := Option.some.inj (hty.symm.trans ht')
 unfold StrIs
 rw [hvar, ← cells_of_strs ht he hce hct hd]
theorem StrIs.cell {P : Program} {W : World} {name : String} {zs : List (List UInt8)} {g : Nat} (h : StrIs P W name zs) (hg : P.globalNamed name = some g) (i : Nat) (z : List UInt8) (hi : zs[i]? = some z) :
  W.cell? ⟨g, i, none⟩ = some (.string (str z)) := by
 have := World.var?_cell hg h i
 rw [this]
 simp [hi]
def wordsL : List (List UInt8) := [[], [110, 117, 109], [118, 97, 114], [103, 101, 116], [97, 100, 100], [115, 117, 98], [109, 117, 108], [108, 101, 115, 115], [115, 97, 109, 101]]
def verbsL : List (List UInt8) := [[], [115, 101, 116], [112, 117, 116], [112, 114, 105, 110, 116], [114, 101, 97, 100], [119, 104, 105, 108, 101], [105, 102], [99, 111, 109, 109, 105, 116]]
end
section
open Go.Proofs
structure Lt (w : World) : Prop where
 tab : Lib.TabIs Tryz.prog w "internal/strconv.uint64pow10" .u64 Lib.pow10Tab
 wrd : StrIs Tryz.prog w "overwinter/parse.words" wordsL
 vrb : StrIs Tryz.prog w "overwinter/parse.verbs" verbsL
structure Lw (w : World) : Prop where
 lt : Lt w
 syn : ∃ tp p, w.var? Tryz.prog "strconv.ErrSyntax" = some #[.iface tp p]
 ran : ∃ tp p, w.var? Tryz.prog "strconv.ErrRange" = some #[.iface tp p]
theorem var_keep {P : Program} {w w' : World} {n : String} {cs : Array Value} (h : w.var? P n = some cs) (hk : Keep [] w w') : w'.var? P n = some cs := by
 unfold World.var? at h ⊢
 cases hg : P.globalNamed n with
 | none => simp [hg] at h
 | some g =>
  simp only [hg, Option.bind_some] at h ⊢
  have hlt : g < w.heap.size := by
   rcases Nat.lt_or_ge g w.heap.size with h' | h'
   ·exact h'
   ·simp [Array.getElem?_eq_none h'] at h
  rw [hk.block g hlt (by simp)]
  exact h
theorem Lt.keep {w w' : World} (h : Lt w) (hk : Keep [] w w') : Lt w' where
 tab := var_keep h.tab hk
 wrd := var_keep h.wrd hk
 vrb := var_keep h.vrb hk
theorem Lw.keep {w w' : World} (h : Lw w) (hk : Keep [] w w') : Lw w' where
 lt := h.lt.keep hk
 syn := let ⟨tp, p, hv⟩ := h.syn; ⟨tp, p, var_keep hv hk⟩
 ran := let ⟨tp, p, hv⟩ := h.ran; ⟨tp, p, var_keep hv hk⟩
theorem keep_below {w w' : World} (h : Go.RowKit.Below w.heap.size w w') : Keep [] w w' := ⟨h.os, h.tape, h.output, h.size, fun k hk _ => h.block k hk⟩
theorem keep_grow (w : World) (k : Nat) (os : Array Obj) : Keep [] w (Go.Sort.grow (w.drewN k) os) :=
 ⟨rfl, rfl, rfl, by simp [Go.Sort.grow, World.drewN], fun j hj _ => by simp only [Go.Sort.grow, World.drewN]; rw [Array.getElem?_append_left hj]⟩
def piN (l : List UInt8) : Int :=
 match Lib.parseIntB 64 l with
 | .ok v => v
 | .«syntax» => 0
 | .range => Lib.intSat 64 l
def piOk (l : List UInt8) : Bool :=
 match Lib.parseIntB 64 l with
 | .ok _ => true
 | _ => false
theorem piN_bounds (l : List UInt8) : -9223372036854775808 ≤ piN l ∧ piN l ≤ 9223372036854775807 := by
 have e63 : ((2 ^ (64 - 1) : Nat) : Int) = 9223372036854775808 := by decide
 unfold piN
 split
 ·rename_i v hv
  have hb := Lib.parseIntB_bounds hv
  exact ⟨by have := hb.1; omega, by have := hb.2; omega⟩
 ·omega
 ·unfold Lib.intSat
  split <;> omega
theorem longOf_pi (l : List UInt8) : longOf l = if piOk l && (Lib.itoa (piN l) == l) then some (piN l) else none := by
 unfold longOf piOk piN
 cases h : Lib.parseIntB 64 l with
 | ok v => simp
 | «syntax» => simp
 | range => simp
theorem parseInt_ret (l : List UInt8) (hl : l.length ≤ 1000000) {w : World} (hw : Lw w) : Ret Tryz.prog 47 [.string (str l), .int .i64 10, .int .i64 64] w fun r w' =>
  (∃ e, r = .tuple #[.int .i64 (piN l), e] ∧ ((piOk l = true ∧ e = .nilIface) ∨ (piOk l = false ∧ ∃ tp p, e = .iface tp p))) ∧ Keep [] w w' := by
 have hs : (str l).size = l.length := str_size l
 have hd : (str l).data.toList = l := str_list l
 cases h : Lib.parseIntB 64 l with
 | ok v =>
  refine Calls.mono (Any.strconv_ParseInt_10_at64_ok Tryz.laysC174 (str l) (by omega) v (by rw [hd]; exact h) w) ?_
  rintro e w' ⟨rfl, hw'⟩
  refine ⟨_, rfl, ⟨_, ?_, .inl ⟨by simp only [piOk, h], rfl⟩⟩, ?_⟩
  ·simp only [piN, h]
  ·rcases hw' with rfl | ⟨t, rfl⟩
   ·exact Keep.refl _ _
   ·exact keep_below (Joins.below_bytesWorld _ _ _ _ (Nat.le_refl _))
 | «syntax» =>
  obtain ⟨tp, p, hv⟩ := hw.syn
  refine Calls.mono (Any.strconv_ParseInt_10_at64_syntax_var Tryz.laysC174 (str l) (by omega) (by rw [hd]; exact h) tp p w hv) ?_
  rintro e w' ⟨N, rfl, _, _, hb⟩
  exact ⟨_, rfl, ⟨_, by simp only [piN, h]; rfl, .inr ⟨by simp only [piOk, h], _, _, rfl⟩⟩, keep_below hb⟩
 | range =>
  obtain ⟨tp, p, hv⟩ := hw.ran
  refine Calls.mono (Any.strconv_ParseInt_10_at64_range_var Tryz.laysC174 (str l) (by omega) (by rw [hd]; exact h) tp p w hv) ?_
  rintro e w' ⟨N, rfl, _, _, hb⟩
  exact ⟨_, rfl, ⟨_, by simp only [piN, h, hd]; rfl, .inr ⟨by simp only [piOk, h], _, _, rfl⟩⟩, keep_below hb⟩
theorem formatInt_ret (v : Int) (h0 : -9223372036854775808 ≤ v) (h1 : v ≤ 9223372036854775807) {w : World} (hw : Lt w) : Ret Tryz.prog 46 [.int .i64 v, .int .i64 10] w fun r w' => r = .string (str (Lib.itoa v)) ∧ Keep [] w w' := by
 refine Calls.mono (Any.strconv_FormatInt_10 Tryz.laysM173 v h0 h1 w hw.tab) ?_
 rintro e w' ⟨rfl, k, os, rfl⟩
 exact ⟨_, rfl, rfl, keep_grow _ _ _⟩
theorem cloneS_ret (l : List UInt8) (hl : l.length ≤ 1000000) (w : World) : Ret Tryz.prog 38 [.string (str l)] w fun r w' => r = .string (str l) ∧ Keep [] w w' := by
 refine Calls.mono (Any.stringslite_Clone Tryz.laysM316 (str l) w (by rw [str_size]; omega)) ?_
 rintro e w' ⟨rfl, hb⟩
 exact ⟨_, rfl, rfl, keep_below hb⟩
theorem clone_ret (l : List UInt8) (hl : l.length ≤ 1000000) (w : World) : Ret Tryz.prog 21 [.string (str l)] w fun r w' => r = .string (str l) ∧ Keep [] w w' := by
 refine ret_of 5 Tryz.func21 rfl rfl (by simp) ?_
 refine oC (cloneS_ret l hl w) ?_
 rintro v w1 ⟨rfl, hk⟩
 refine au ?_
 exact rn_ret Tryz.func21 (.inl ⟨_, rfl, rfl⟩) ⟨rfl, hk⟩
def tokC (pos : Int) (l : List UInt8) (b : Bool) (v : Int) : List Value := [.int .i64 pos, .string (str l), .bool b, .int .i64 v]
def tokL (t : Tok) : List Value := tokC (t.pos : Nat) t.text t.num t.val
theorem tokC_one (pos : Int) (l : List UInt8) (b : Bool) (v : Int) : ∀ u ∈ tokC pos l b v, u.oneCell' = true := by
 intro u hu
 simp only [tokC, List.mem_cons, List.not_mem_nil, or_false] at hu
 rcases hu with rfl | rfl | rfl | rfl <;> rfl
theorem tokL_length (t : Tok) : (tokL t).length = 4 := rfl
theorem zero_tok : ((Tryz.prog.info? 231).bind (·.zero)).map (·.cells) = some (tokC 0 [] false 0).toArray := by kernel_rfl
theorem built_tok0 : Tryz.prog.built 231 [] = some (tokC 0 [] false 0).toArray := by kernel_rfl
theorem built_tok1 (s : ByteArray) : Tryz.prog.built 231 [(1, .string s)] = some [Value.int .i64 0, .string s, .bool false, .int .i64 0].toArray := by kernel_rfl
theorem built_tok3 (s : ByteArray) (v : Int) : Tryz.prog.built 231 [(1, .string s), (2, .bool true), (3, .int .i64 v)] = some [Value.int .i64 0, .string s, .bool true, .int .i64 v].toArray := by kernel_rfl
theorem size_tok : sizeOk Tryz.prog 231 4 = true := by kernel_rfl
theorem word_ret (l : List UInt8) (hl : l.length ≤ 1000000) (w : World) : Ret Tryz.prog 187 [.string (str l)] w fun r w' => r = .agg (tokC 0 l false 0).toArray ∧ Keep [] w w' := by
 refine ret_of 6 Tryz.func187 rfl rfl (by simp) ?_
 refine au ?_
 refine pl_op rfl rfl (opTo_allocN _ rfl zero_tok ?_)
 intro w1 b hb0 hs1 hk1 hb1
 refine oC (clone_ret l hl w1) ?_
 rintro v w2 ⟨rfl, hk2⟩
 have hb2 := hk2.blk hb1 (by simp)
 refine pl_val _ rfl rfl (val_build _ rfl rfl (built_tok1 (str l)) w2) ?_
 refine pl_op rfl rfl (opTo_storeN (tokC 0 l false 0) rfl rfl rfl rfl size_tok hb2 (by simp [tokC]) (tokC_one _ _ _ _) ?_)
 intro w3 hs3 hk3 hb3
 rw [splice_whole (by rfl)] at hb3
 refine au ?_
 exact rn_ret Tryz.func187 (.inr (.inr (.inl ⟨_, _, _, rfl, rfl, blk_loadVar hT hb3 rfl⟩))) ⟨rfl, (hk1.tr hk2).trB hk3 (by omega)⟩
def bitV : Bit → Value
 | .tok t b v => .tuple #[.agg (tokC 0 t b v).toArray, .bool true]
 | _ => .tuple #[.agg (tokC 0 [] false 0).toArray, .bool false]
def numV (l : List UInt8) : Value :=
 match longOf l with
 | some v => .tuple #[.agg (tokC 0 l true v).toArray, .bool true]
 | none => .tuple #[.agg (tokC 0 [] false 0).toArray, .bool false]
theorem numV_yes {l : List UInt8} (h : piOk l = true) (h2 : (Lib.itoa (piN l) == l) = true) : numV l = .tuple #[.agg (tokC 0 l true (piN l)).toArray, .bool true] := by
 unfold numV
 rw [longOf_pi, h, h2]
 rfl
theorem numV_no {l : List UInt8} (h : (piOk l && (Lib.itoa (piN l) == l)) = false) : numV l = .tuple #[.agg (tokC 0 [] false 0).toArray, .bool false] := by
 unfold numV
 rw [longOf_pi, h]
 rfl
theorem number_ret (l : List UInt8) (hl : l.length ≤ 1000000) {w : World} (hw : Lw w) : Ret Tryz.prog 191 [.string (str l)] w fun r w' => r = numV l ∧ Keep [] w w' := by
 refine ret_of 25 Tryz.func191 rfl rfl (by simp) ?_
 refine au ?_
 refine pl_op rfl rfl (opTo_allocN _ rfl zero_tok ?_)
 intro w1 b hb0 hs1 hk1 hb1
 refine oC (parseInt_ret l hl (hw.keep hk1)) ?_
 rintro v w2 ⟨⟨er, rfl, her⟩, hk2⟩
 have hb2 := hk2.blk hb1 (by simp)
 refine oC (formatInt_ret (piN l) (piN_bounds l).1 (piN_bounds l).2 ((hw.keep hk1).keep hk2).lt) ?_
 rintro v w3 ⟨rfl, hk3⟩
 have hb3 := hk3.blk hb2 (by simp)
 have hk03 : Keep [] w w3 := (hk1.tr hk2).tr hk3
 refine au ?_
 rcases her with ⟨hok, rfl⟩ | ⟨hok, tp, p, rfl⟩
 ·refine pl_val _ rfl rfl (val_errNil (by decide +kernel) rfl rfl w3) ?_
  refine au ?_
  obtain ⟨q, hq⟩ : ∃ q, q = (Lib.itoa (piN l) == l) := ⟨_, rfl⟩
  refine pl_val _ rfl rfl (val_neS (Lib.itoa (piN l)) l (!q) rfl rfl rfl (by rw [hq]) w3) ?_
  cases q with
  | true =>
   refine au ?_
   refine pl_val _ rfl rfl (val_build _ rfl rfl (built_tok3 (str (Lib.itoa (piN l))) (piN l)) w3) ?_
   refine pl_op rfl rfl (opTo_storeN (tokC 0 (Lib.itoa (piN l)) true (piN l)) rfl rfl rfl rfl size_tok hb3 (by simp [tokC]) (tokC_one _ _ _ _) ?_)
   intro w4 hs4 hk4 hb4
   rw [splice_whole (by rfl)] at hb4
   refine au ?_
   refine rn_ret Tryz.func191 (.inr (.inr (.inr (.inl ⟨_, _, _, _, _, _, rfl, rfl, blk_loadVar hT hb4 rfl, rfl, rfl⟩)))) ⟨?_, hk03.trB hk4 (by omega)⟩
   rw [numV_yes hok hq.symm]
   have e : Lib.itoa (piN l) = l := by simpa using hq.symm
   rw [e]
  | false =>
   refine au ?_
   refine pl_val _ rfl rfl (val_build _ rfl rfl built_tok0 w3) ?_
   refine pl_op rfl rfl (opTo_storeN (tokC 0 [] false 0) rfl rfl rfl rfl size_tok hb3 (by simp [tokC]) (tokC_one _ _ _ _) ?_)
   intro w4 hs4 hk4 hb4
   rw [splice_whole (by rfl)] at hb4
   refine au ?_
   exact rn_ret Tryz.func191 (.inr (.inr (.inr (.inl ⟨_, _, _, _, _, _, rfl, rfl, blk_loadVar hT hb4 rfl, rfl, rfl⟩)))) ⟨(numV_no (by rw [← hq, Bool.and_false])).symm, hk03.trB hk4 (by omega)⟩
 ·refine pl_val _ rfl rfl (val_errSome tp p (by decide +kernel) rfl rfl w3) ?_
  refine au ?_
  refine pl_val _ rfl rfl (val_build _ rfl rfl built_tok0 w3) ?_
  refine pl_op rfl rfl (opTo_storeN (tokC 0 [] false 0) rfl rfl rfl rfl size_tok hb3 (by simp [tokC]) (tokC_one _ _ _ _) ?_)
  intro w4 hs4 hk4 hb4
  rw [splice_whole (by rfl)] at hb4
  refine au ?_
  exact rn_ret Tryz.func191 (.inr (.inr (.inr (.inl ⟨_, _, _, _, _, _, rfl, rfl, blk_loadVar hT hb4 rfl, rfl, rfl⟩)))) ⟨(numV_no (by rw [hok, Bool.false_and])).symm, hk03.trB hk4 (by omega)⟩
end
section
open Go.Proofs
def wordsB : List UInt8 → List UInt8 → List (List UInt8)
 | u, [] => if u = [] then [] else [u]
 | u, c :: r => if c = 32 then (if u = [] then wordsB [] r else u :: wordsB [] r) else wordsB (u ++ [c]) r
def wordsOf (l : List UInt8) : List (List UInt8) := wordsB [] l
theorem wordsB_skip : ∀ (t u r : List UInt8), (∀ c ∈ t, c ≠ 32) → wordsB u (t ++ r) = wordsB (u ++ t) r
 | [], u, r, _ => by simp
 | c :: t, u, r, h => by
  have h1 : c ≠ 32 := h c (by simp)
  rw [List.cons_append, wordsB, if_neg h1, wordsB_skip t (u ++ [c]) r fun d hd => h d (by simp [hd])]
  simp
theorem wordsB_len : ∀ (r u : List UInt8), (wordsB u r).length ≤ u.length + r.length ∧ ∀ x ∈ wordsB u r, x.length ≤ u.length + r.length
 | [], u => by
  unfold wordsB
  split
  ·exact ⟨Nat.zero_le _, fun x hx => by cases hx⟩
  ·rename_i h
   have := List.length_pos_iff.2 h
   exact ⟨by simp; omega, fun x hx => by simp at hx; subst hx; simp⟩
 | c :: r, u => by
  have i0 := wordsB_len r []
  have i1 := wordsB_len r (u ++ [c])
  simp only [List.length_nil, List.length_append, List.length_cons, Nat.zero_add] at i0 i1
  unfold wordsB
  split
  ·split
   ·exact ⟨by simp only [List.length_cons]; omega, fun x hx => by have := i0.2 x hx; simp only [List.length_cons]; omega⟩
   ·rename_i h
    have := List.length_pos_iff.2 h
    refine ⟨by simp only [List.length_cons]; omega, fun x hx => ?_⟩
    rcases List.mem_cons.1 hx with h | h
    ·subst h; omega
    ·have := i0.2 x h; simp only [List.length_cons]; omega
  ·exact ⟨by simp only [List.length_cons]; omega, fun x hx => by have := i1.2 x hx; simp only [List.length_cons]; omega⟩
def pb32 (r : Nat) : Bool := r == 32
def curOf (l : List UInt8) (pos : Nat) : Option Nat → List UInt8
 | none => []
 | some a => (l.drop a).take (pos - a)
theorem u8_32 {c : UInt8} (h : c.toNat ≠ 32) : c ≠ 32 := fun e => h (by rw [e]; rfl)
theorem dec_blank (l : List UInt8) (pos : Nat) (hp : pos < l.length) :
  (l[pos] = 32 ∧ Utf8.decode (str l) pos = (32, 1)) ∨ (pb32 (Utf8.decode (str l) pos).1 = false ∧ 1 ≤ (Utf8.decode (str l) pos).2 ∧ pos + (Utf8.decode (str l) pos).2 ≤ l.length ∧ ∀ c ∈ (l.drop pos).take (Utf8.decode (str l) pos).2, c ≠ 32) := by
 have hs := str_size l
 have hg : ∀ k, pos + k < l.length → ∃ c, l[pos + k]? = some c ∧ (str l).get! (pos + k) = c := fun k hk => by
  refine ⟨l[pos + k], List.getElem?_eq_getElem hk, ?_⟩
  show (l.toArray)[pos + k]! = _
  simp [hk]
 obtain ⟨c0, e0, g0⟩ := hg 0 hp
 simp only [Nat.add_zero] at e0 g0
 have eL : l[pos] = c0 := by
  rw [List.getElem?_eq_getElem hp] at e0
  exact Option.some.inj e0
 have hall : ∀ k, pos + k ≤ l.length → (∀ j, j < k → ∀ c, l[pos + j]? = some c → c ≠ 32) → ∀ c ∈ (l.drop pos).take k, c ≠ 32 := fun k _ h c hc => by
  obtain ⟨j, hj, rfl⟩ := List.getElem_of_mem hc
  have hj' : j < k ∧ pos + j < l.length := by simp at hj; omega
  refine h j hj'.1 _ ?_
  rw [List.getElem_take, List.getElem_drop]
  exact List.getElem?_eq_getElem hj'.2
 have one : c0.toNat ≠ 32 → ∀ r, pb32 r = false → Utf8.decode (str l) pos = (r, 1) → (l[pos] = 32 ∧ Utf8.decode (str l) pos = (32, 1)) ∨ (pb32 (Utf8.decode (str l) pos).1 = false ∧ 1 ≤ (Utf8.decode (str l) pos).2 ∧ pos + (Utf8.decode (str l) pos).2 ≤ l.length ∧ ∀ c ∈ (l.drop pos).take (Utf8.decode (str l) pos).2, c ≠ 32) := fun hc r hr hd => by
  rw [hd]
  refine .inr ⟨hr, Nat.le_refl _, hp, hall 1 hp fun j hj c h => ?_⟩
  have : j = 0 := by omega
  subst this
  rw [Nat.add_zero, e0] at h
  cases h
  exact u8_32 hc
 have many : ∀ k r, 1 ≤ k → pb32 r = false → c0.toNat ≠ 32 → Utf8.decode (str l) pos = (r, k) → (∀ j, 1 ≤ j → j < k → pos + j < l.length ∧ ((str l).get! (pos + j)).toNat / 64 = 2) → (l[pos] = 32 ∧ Utf8.decode (str l) pos = (32, 1)) ∨ (pb32 (Utf8.decode (str l) pos).1 = false ∧ 1 ≤ (Utf8.decode (str l) pos).2 ∧ pos + (Utf8.decode (str l) pos).2 ≤ l.length ∧ ∀ c ∈ (l.drop pos).take (Utf8.decode (str l) pos).2, c ≠ 32) := fun k r hk hr hc hd hj => by
  rw [hd]
  have hle : pos + k ≤ l.length := by
   rcases Nat.lt_or_ge 1 k with h | h
   ·have := (hj (k - 1) (by omega) (by omega)).1; omega
   ·omega
  refine .inr ⟨hr, hk, hle, hall k hle fun j hjk c h => ?_⟩
  rcases Nat.eq_zero_or_pos j with rfl | h0
  ·rw [Nat.add_zero, e0] at h
   cases h
   exact u8_32 hc
  ·obtain ⟨a1, a2⟩ := hj j h0 hjk
   obtain ⟨c', e', g'⟩ := hg j a1
   rw [e'] at h
   cases h
   rw [g'] at a2
   exact u8_32 (by omega)
 by_cases h80 : c0.toNat < 128
 ·have hd : Utf8.decode (str l) pos = (c0.toNat, 1) := by
   unfold Utf8.decode
   simp only [Nat.add_zero, g0, h80, if_true]
  by_cases h32 : c0.toNat = 32
  ·refine .inl ⟨?_, by rw [hd, h32]⟩
   rw [eL]
   exact UInt8.toNat_inj.1 h32
  ·exact one h32 _ (by simp [pb32, h32]) hd
 ·have h32 : c0.toNat ≠ 32 := by omega
  have hb : ∀ n : Nat, 128 ≤ n → pb32 n = false := fun n hn => by simp [pb32]; omega
  have cont : ∀ k, (decide (pos + k < (str l).size) && ((str l).get! (pos + k)).toNat / 64 == 2) = true → pos + k < l.length ∧ ((str l).get! (pos + k)).toNat / 64 = 2 := fun k h => by
   simpa [hs] using h
  generalize hD : Utf8.decode (str l) pos = D at *
  unfold Utf8.decode at hD
  simp only [Nat.add_zero, g0, h80, if_false] at hD
  split at hD
  ·rename_i hc
   simp only [Bool.and_eq_true] at hc
   split at hD
   ·exact many 2 _ (by omega) (hb _ (by omega)) h32 hD.symm fun j h1 h2 => by
     have : j = 1 := by omega
     subst this
     exact cont 1 (by simpa using hc.2)
   ·exact one h32 _ (by decide) hD.symm
  ·split at hD
   ·rename_i hc
    simp only [Bool.and_eq_true] at hc
    split at hD
    ·rename_i hv
     simp only [Bool.and_eq_true, decide_eq_true_eq] at hv
     exact many 3 _ (by omega) (hb _ (by omega)) h32 hD.symm fun j h1 h2 => by
      have : j = 1 ∨ j = 2 := by omega
      rcases this with rfl | rfl
      ·exact cont 1 (by simpa using hc.1.2)
      ·exact cont 2 (by simpa using hc.2)
    ·exact one h32 _ (by decide) hD.symm
   ·split at hD
    ·rename_i hc
     simp only [Bool.and_eq_true] at hc
     split at hD
     ·rename_i hv
      simp only [Bool.and_eq_true, decide_eq_true_eq] at hv
      exact many 4 _ (by omega) (hb _ (by omega)) h32 hD.symm fun j h1 h2 => by
       have : j = 1 ∨ j = 2 ∨ j = 3 := by omega
       rcases this with rfl | rfl | rfl
       ·exact cont 1 (by simpa using hc.1.1.2)
       ·exact cont 2 (by simpa using hc.1.2)
       ·exact cont 3 (by simpa using hc.2)
     ·exact one h32 _ (by decide) hD.symm
    ·exact one h32 _ (by decide) hD.symm
theorem cur_grow {l : List UInt8} {pos k : Nat} : ∀ {st : Option Nat}, (∀ a, st = some a → a ≤ pos) → curOf l (pos + k) (some (st.getD pos)) = curOf l pos st ++ (l.drop pos).take k
 | none, _ => by simp [curOf]
 | some a, h => by
  have ha := h a rfl
  simp only [curOf, Option.getD_some]
  rw [show pos + k - a = (pos - a) + k by omega, List.take_add, List.drop_drop, show a + (pos - a) = pos by omega]
theorem spans_words (l : List UInt8) : ∀ (f pos : Nat) (st : Option Nat) (acc : List (Nat × Nat)), pos ≤ l.length → l.length - pos ≤ f → (∀ a, st = some a → a < pos) →
  (Lib.closeSpans (str l) (Lib.spansFromP pb32 (str l) f pos st acc)).map (fun x => (str l).extract x.1 x.2) = acc.map (fun x => (str l).extract x.1 x.2) ++ (wordsB (curOf l pos st) (l.drop pos)).map str := by
 intro f
 have hs := str_size l
 have fin : ∀ (pos : Nat) (st : Option Nat) (acc : List (Nat × Nat)), pos = l.length → (∀ a, st = some a → a < pos) → (Lib.closeSpans (str l) (acc, st)).map (fun x => (str l).extract x.1 x.2) = acc.map (fun x => (str l).extract x.1 x.2) ++ (wordsB (curOf l pos st) (l.drop pos)).map str := fun pos st acc hp ha => by
  rw [hp, List.drop_length]
  cases st with
  | none => simp [Lib.closeSpans, curOf, wordsB]
  | some a =>
   have hlt := ha a rfl
   have hne : curOf l l.length (some a) ≠ [] := fun e => by
    have := congrArg List.length e
    simp [curOf] at this
    omega
   simp only [Lib.closeSpans, List.map_append, List.map_cons, List.map_nil, wordsB, if_neg hne]
   rw [hs, str_cut]
   rfl
 induction f with
 | zero =>
  intro pos st acc h1 h2 h3
  exact fin pos st acc (by omega) h3
 | succ f ih =>
  intro pos st acc h1 h2 h3
  rcases Nat.lt_or_ge pos l.length with hp | hp
  rotate_left
  ·rw [Lib.spansFromP_end _ _ _ _ _ _ (by omega)]
   exact fin pos st acc (by omega) h3
  have hdrop : l.drop pos = l[pos] :: l.drop (pos + 1) := List.drop_eq_getElem_cons hp
  unfold Lib.spansFromP
  rw [if_pos (by omega)]
  rcases dec_blank l pos hp with ⟨e1, e2⟩ | ⟨e1, e2, e3, e4⟩
  ·rw [e2]
   simp only [show pb32 32 = true from rfl, if_true]
   cases st with
   | none =>
    simp only
    rw [ih (pos + 1) none acc (by omega) (by omega) (fun a h => by cases h), hdrop, e1]
    simp [curOf, wordsB]
   | some a =>
    have hlt := h3 a rfl
    have hne : curOf l pos (some a) ≠ [] := fun e => by
     have := congrArg List.length e
     simp [curOf] at this
     omega
    simp only
    rw [ih (pos + 1) none _ (by omega) (by omega) (fun a h => by cases h), hdrop, e1]
    simp only [wordsB, if_true, if_neg hne, List.map_append, List.map_cons, List.map_nil, List.append_assoc, List.cons_append, List.nil_append]
    rw [str_cut]
    rfl
  ·have key : wordsB (curOf l pos st) (l.drop pos) = wordsB (curOf l (pos + (Utf8.decode (str l) pos).2) (some (st.getD pos))) (l.drop (pos + (Utf8.decode (str l) pos).2)) := by
    rw [cur_grow fun a h => Nat.le_of_lt (h3 a h), ← wordsB_skip _ _ _ e4, ← List.drop_drop, List.take_append_drop]
   rw [e1]
   simp only [Bool.false_eq_true, if_false]
   rw [key]
   cases st with
   | none =>
    simp only [Option.getD_none]
    exact ih _ _ acc e3 (by omega) fun a h => by cases h; omega
   | some a =>
    have := h3 a rfl
    simp only [Option.getD_some]
    exact ih _ _ acc e3 (by omega) fun b h => by cases h; omega
theorem fields_words (l : List UInt8) : Lib.goFieldsP pb32 (str l) = (wordsOf l).map str := by
 unfold Lib.goFieldsP Lib.spansOfP
 rw [spans_words l _ 0 none [] (Nat.zero_le _) (by rw [str_size]; omega) fun a h => by cases h]
 simp [curOf, wordsOf]
end
section
open Go.Proofs
def strs (l : List (List UInt8)) : List Value := l.map fun x => .string (str x)
theorem strs_length (l : List (List UInt8)) : (strs l).length = l.length := by simp [strs]
theorem strs_at {l : List (List UInt8)} {i : Nat} {x : List UInt8} (h : l[i]? = some x) : (strs l)[i]? = some (.string (str x)) := by simp [strs, h]
theorem isBlank1_ret (r : Nat) (w : World) : Ret Tryz.prog 23 [.int .i32 (r : Nat)] w fun v w' => v = .bool (pb32 r) ∧ w' = w := by
 refine ret_of 5 Tryz.func23 rfl rfl (by simp) ?_
 refine au ?_
 by_cases h : r = 32
 ·refine ye ?_
  refine au ?_
  exact rn_ret Tryz.func23 (.inl ⟨_, rfl, rfl⟩) ⟨by simp [pb32, h], rfl⟩
 ·refine nay ?_
  refine au ?_
  exact rn_ret Tryz.func23 (.inl ⟨_, rfl, rfl⟩) ⟨by simp [pb32, h], rfl⟩
def StV (w : World) (v : Value) (l : List (List UInt8)) : Prop := ∃ a cap, v = .slice a l.length cap ∧ l.length ≤ cap ∧ (0 < l.length → ∃ b q, a = some ⟨b, q, none⟩ ∧ b < w.heap.size ∧ w.rangeAt b q (strs l))
def NB (v : Value) (fp : List Nat) : Prop := ∀ b q n c, v = .slice (some ⟨b, q, none⟩) n c → 0 < n → b ∉ fp
section
variable {w w' : World} {v : Value} {l : List (List UInt8)}
theorem StV.form (h : StV w v l) : ∃ a cap, v = .slice a l.length cap ∧ l.length ≤ cap := let ⟨a, cap, h, h2, _⟩ := h; ⟨a, cap, h, h2⟩
theorem StV.keep {fp : List Nat} (h : StV w v l) (hk : Keep fp w w') (hn : NB v fp) : StV w' v l := by
 obtain ⟨a, cap, rfl, h2, h3⟩ := h
 refine ⟨a, cap, rfl, h2, fun h0 => ?_⟩
 obtain ⟨b, q, rfl, h4, h5⟩ := h3 h0
 exact ⟨b, q, rfl, Nat.lt_of_lt_of_le h4 hk.size, range_keep h5 hk h4 (hn b q _ _ rfl h0)⟩
theorem StV.keep0 (h : StV w v l) (hk : Keep [] w w') : StV w' v l := h.keep hk fun _ _ _ _ _ _ => by simp
theorem StV.at (h : StV w v l) {i : Nat} {x : List UInt8} (hx : l[i]? = some x) : ∃ b q cap, v = .slice (some ⟨b, q, none⟩) l.length cap ∧ b < w.heap.size ∧ w.cell? ⟨b, q + i, none⟩ = some (.string (str x)) := by
 have hi := (List.getElem?_eq_some_iff.1 hx).1
 obtain ⟨a, cap, h1, _, h3⟩ := h
 obtain ⟨b, q, rfl, h4, h5⟩ := h3 (by omega)
 exact ⟨b, q, cap, h1, h4, h5 i _ (strs_at hx)⟩
theorem StV.nb {fp fp' : List Nat} (h : StV w v l) (hn : NB v fp) (hf : ∀ k ∈ fp', k ∈ fp ∨ w.heap.size ≤ k) : NB v fp' := fun b q n c he h0 hm => by
 rcases hf b hm with h1 | h1
 ·exact hn b q n c he h0 h1
 ·obtain ⟨a, cap, rfl, _, h3⟩ := h
  injection he with e1 e2 e3
  obtain ⟨b', q', e4, h4, _⟩ := h3 (by omega)
  rw [e4] at e1
  injection e1 with e1
  injection e1 with e1 _
  omega
theorem StV.first (h : StV w v l) {a : Option Addr} {cap : Nat} (hv : v = .slice a l.length cap) {k : Nat} (hk : k ≤ l.length) : StV w (.slice a k cap) (l.take k) := by
 obtain ⟨a', cap', h1, h2, h3⟩ := h
 rw [h1] at hv
 injection hv with e1 _ e3
 subst e1 e3
 have hl : (l.take k).length = k := by simp; omega
 refine ⟨a', cap', by rw [hl], by omega, fun h0 => ?_⟩
 obtain ⟨b, q, rfl, h4, h5⟩ := h3 (by omega)
 refine ⟨b, q, rfl, h4, fun j u hu => h5 j u ?_⟩
 have hj := (List.getElem?_eq_some_iff.1 hu).1
 rw [strs_length, hl] at hj
 rw [← hu]
 simp only [strs, List.map_take, List.getElem?_take, if_pos hj]
theorem StV.last {b q cap : Nat} (h : StV w (.slice (some ⟨b, q, none⟩) l.length cap) l) {k : Nat} (hk : k ≤ l.length) {ad : Option Addr} (hc : k < cap → ad = some ⟨b, q + k, none⟩) : StV w (.slice ad (l.length - k) (cap - k)) (l.drop k) := by
 obtain ⟨a', cap', h1, h2, h3⟩ := h
 injection h1 with e1 _ e3
 subst e1 e3
 have hl : (l.drop k).length = l.length - k := by simp
 refine ⟨ad, cap - k, by rw [hl], by omega, fun h0 => ?_⟩
 obtain ⟨b', q', e, h4, h5⟩ := h3 (by omega)
 injection e with e
 injection e with e1 e2
 subst e1 e2
 refine ⟨b, q + k, hc (by omega), h4, fun j u hu => ?_⟩
 have := h5 (k + j) u (by rw [← hu]; simp [strs, List.getElem?_drop])
 rwa [← Nat.add_assoc] at this
end
theorem fields_ret (l : List UInt8) (hl : l.length ≤ 1000000000) (w : World) : Ret Tryz.prog 22 [.string (str l), .func (.func 23) #[] #[]] w fun r w' => StV w' r (wordsOf l) ∧ (∀ b q n c, r = .slice (some ⟨b, q, none⟩) n c → w.heap.size ≤ b) ∧ Keep [] w w' := by
 have hp : PredAtRunes Tryz.prog 23 #[] pb32 w := fun W x _ _ => by
  refine Calls.mono (isBlank1_ret x W) ?_
  rintro e w' ⟨v, rfl, rfl, rfl⟩
  exact ⟨rfl, 0, rfl⟩
 refine Calls.mono (Any.strings_FieldsFunc_runes Tryz.lays229 _ #[] (enters_of Tryz.func23 (by kernel_rfl) rfl) pb32 (str l) w (by rw [str_size]; omega) hp (by kernel_rfl) (by kernel_rfl)) ?_
 rintro e w' ⟨A, rfl, hA, hown, hb⟩
 rw [fields_words, List.length_map] at hown ⊢
 refine ⟨_, rfl, ⟨_, _, rfl, Nat.le_refl _, fun h0 => ⟨A, 0, rfl, ?_, fun j u hu => ?_⟩⟩, fun b q n c h => ?_, keep_below hb⟩
 ·exact (hown.lt A rfl).2
 ·have := hown.cells (g := A) rfl j u (by rw [List.map_map]; exact hu)
  rwa [Addr.add_mid] at this
 ·injection h with h
  injection h with h
  injection h with h _
  rw [← h]
  exact hA
theorem bx156 : Builder.Extra Tryz.prog Tryz.lays156_ren where
 sizeBuilder := by kernel_rfl
 liesBuilder := by kernel_rfl
 t5 := Tryz.underlying5
 a5 := Tryz.isAgg5
 z5 := Tryz.sizeOf5
 v5 := Tryz.zeroValue5
 infoByte := by kernel_rfl
 cellsByte := by kernel_rfl
 sizeByte := by kernel_rfl
 neB5 := by decide
theorem join_ret {v : Value} {l : List (List UInt8)} {w : World} (h : StV w v l) (hl : (Lib.join l [10]).length ≤ 1000000) (hn : l.length ≤ 1000000) : Ret Tryz.prog 97 [v, .string (str [10])] w fun r w' => r = .string (str (Lib.join l [10])) ∧ Keep [] w w' := by
 obtain ⟨a, cap, rfl, h2, h3⟩ := h
 have e : (l.map str).map (·.data.toList) = l := by simp [Function.comp_def, str_list]
 rcases Nat.eq_zero_or_pos l.length with h0 | h0
 ·have : l = [] := List.eq_nil_of_length_eq_zero h0
  subst this
  refine Calls.mono (Any.strings_Join_none Tryz.lays156 bx156 a cap (str [10]) w) ?_
  rintro e w' ⟨rfl, rfl⟩
  exact ⟨_, rfl, rfl, Keep.refl _ _⟩
 ·obtain ⟨b, q, rfl, h4, h5⟩ := h3 h0
  have hc := Any.strings_Join Tryz.lays156 bx156 b q cap (l.map str) (str [10]) w (fun j x hx => h5 j _ (by
   rw [List.getElem?_map] at hx
   obtain ⟨y, hy, rfl⟩ := Option.map_eq_some_iff.1 hx
   exact strs_at hy)) h4 (by simp; omega) (by simpa using h2) (by rw [e, str_list]; omega)
  rw [e, str_list, List.length_map] at hc
  refine Calls.mono hc ?_
  rintro e w' ⟨rfl, hb⟩
  exact ⟨_, rfl, rfl, keep_below hb⟩
theorem cutBar_ret (l : List UInt8) (w : World) : Ret Tryz.prog 20 [.string (str l), .string (str [124])] w fun r w' => r = .tuple #[.string (str (Lib.trimPrefix l [124])), .bool (Lib.hasPrefix l [124])] ∧ w' = w := by
 refine Calls.mono (Any.strings_CutPrefix Tryz.lays103 (str l) (str [124]) w) ?_
 rintro e w' ⟨rfl, rfl⟩
 rw [str_list, str_list]
 exact ⟨_, rfl, rfl, rfl⟩
theorem sContains_ret (l : List UInt8) (w : World) : Ret Tryz.prog 19 [.string (str l), .string (str [10])] w fun r w' => r = .bool (decide (0 ≤ Lib.indexByte l 10)) ∧ w' = w := by
 refine Calls.mono (Any.strings_Contains_one Tryz.lays144 (str l) 10 w) ?_
 rintro e w' ⟨rfl, rfl⟩
 rw [str_list]
 exact ⟨_, rfl, rfl, rfl⟩
end
section
inductive ET where
 | mk (op v n : Int) (l : List ET)
inductive ST where
 | mk (op v : Int) (e f : ET) (b o : List ST)
def RowAt (F : Nat → Prop) (w : World) (k : Nat) (a : Option Addr) (len : Nat) (cc : Nat → List Value) : Prop :=
 0 < len → ∃ b q, a = some ⟨b, q, none⟩ ∧ F b ∧ ∀ i, i < len → w.rangeAt b (q + i * k) (cc i)
inductive ExprV (F : Nat → Prop) (w : World) : List Value → ET → Prop
 | mk {op v n : Int} {l : List ET} {a : Option Addr} {cap : Nat} (cc : Nat → List Value) (hr : RowAt F w 4 a l.length cc) (hc : ∀ i (h : i < l.length), ExprV F w (cc i) (l[i]'h)) :
   ExprV F w [.int .i64 op, .int .i64 v, .int .i64 n, .slice a l.length cap] (.mk op v n l)
inductive StmtV (F : Nat → Prop) (w : World) : List Value → ST → Prop
 | mk {op v : Int} {e f : ET} {ce cf : List Value} {b o : List ST} {ab ao : Option Addr} {capb capo : Nat} (cb co : Nat → List Value) (he : ExprV F w ce e) (hf : ExprV F w cf f)
   (hb : RowAt F w 12 ab b.length cb) (hcb : ∀ i (h : i < b.length), StmtV F w (cb i) (b[i]'h))
   (ho : RowAt F w 12 ao o.length co) (hco : ∀ i (h : i < o.length), StmtV F w (co i) (o[i]'h)) :
   StmtV F w ([.int .i64 op, .int .i64 v] ++ ce ++ cf ++ [.slice ab b.length capb, .slice ao o.length capo]) (.mk op v e f b o)
def StmtsV (F : Nat → Prop) (w : World) (v : Value) (l : List ST) : Prop :=
 ∃ a cap cc, v = .slice a l.length cap ∧ RowAt F w 12 a l.length cc ∧ ∀ i (h : i < l.length), StmtV F w (cc i) (l[i]'h)
def ExprsV (F : Nat → Prop) (w : World) (v : Value) (l : List ET) : Prop :=
 ∃ a cap cc, v = .slice a l.length cap ∧ RowAt F w 4 a l.length cc ∧ ∀ i (h : i < l.length), ExprV F w (cc i) (l[i]'h)
section
variable {F F' : Nat → Prop} {w w' : World} {cs : List Value}
theorem ExprV.length {t : ET} (h : ExprV F w cs t) : cs.length = 4 := by cases h; rfl
theorem ExprV.one {t : ET} (h : ExprV F w cs t) : ∀ u ∈ cs, u.oneCell' = true := by
 cases h
 intro u hu
 simp at hu
 rcases hu with rfl | rfl | rfl | rfl <;> rfl
theorem StmtV.length {t : ST} (h : StmtV F w cs t) : cs.length = 12 := by
 cases h with
 | mk cb co he hf => simp [he.length, hf.length]
theorem StmtV.one {t : ST} (h : StmtV F w cs t) : ∀ u ∈ cs, u.oneCell' = true := by
 cases h with
 | mk cb co he hf =>
  intro u hu
  simp only [List.mem_append, List.mem_cons, List.not_mem_nil, or_false] at hu
  rcases hu with (((rfl | rfl) | hu) | hu) | (rfl | rfl)
  ·rfl
  ·rfl
  ·exact he.one u hu
  ·exact hf.one u hu
  ·rfl
  ·rfl
def Stays (F : Nat → Prop) (w : World) (fp : List Nat) : Prop := ∀ k, F k → k < w.heap.size ∧ k ∉ fp
theorem RowAt.keep {k : Nat} {a : Option Addr} {len : Nat} {cc : Nat → List Value} {fp : List Nat} (h : RowAt F w k a len cc) (hk : Keep fp w w') (hs : Stays F w fp) : RowAt F w' k a len cc := fun h0 => by
 obtain ⟨b, q, ha, hF, hr⟩ := h h0
 refine ⟨b, q, ha, hF, fun i hi j v hv => ?_⟩
 rw [World.cell?_of_block (w := w) (hk.block b (hs b hF).1 (hs b hF).2)]
 exact hr i hi j v hv
theorem RowAt.mono {k : Nat} {a : Option Addr} {len : Nat} {cc : Nat → List Value} (h : RowAt F w k a len cc) (hF : ∀ b, F b → F' b) : RowAt F' w k a len cc := fun h0 => by
 obtain ⟨b, q, ha, hb, hr⟩ := h h0
 exact ⟨b, q, ha, hF b hb, hr⟩
theorem ExprV.keep {t : ET} {fp : List Nat} (h : ExprV F w cs t) (hk : Keep fp w w') (hs : Stays F w fp) : ExprV F w' cs t := by
 induction h with
 | mk cc hr _ ih => exact .mk cc (hr.keep hk hs) ih
theorem ExprV.mono {t : ET} (h : ExprV F w cs t) (hF : ∀ b, F b → F' b) : ExprV F' w cs t := by
 induction h with
 | mk cc hr _ ih => exact .mk cc (hr.mono hF) ih
theorem StmtV.keep {t : ST} {fp : List Nat} (h : StmtV F w cs t) (hk : Keep fp w w') (hs : Stays F w fp) : StmtV F w' cs t := by
 induction h with
 | mk cb co he hf hb _ ho _ ihb iho => exact .mk cb co (he.keep hk hs) (hf.keep hk hs) (hb.keep hk hs) ihb (ho.keep hk hs) iho
theorem StmtV.mono {t : ST} (h : StmtV F w cs t) (hF : ∀ b, F b → F' b) : StmtV F' w cs t := by
 induction h with
 | mk cb co he hf hb _ ho _ ihb iho => exact .mk cb co (he.mono hF) (hf.mono hF) (hb.mono hF) ihb (ho.mono hF) iho
theorem StmtsV.keep {v : Value} {l : List ST} {fp : List Nat} (h : StmtsV F w v l) (hk : Keep fp w w') (hs : Stays F w fp) : StmtsV F w' v l := by
 obtain ⟨a, cap, cc, hv, hr, hc⟩ := h
 exact ⟨a, cap, cc, hv, hr.keep hk hs, fun i hi => (hc i hi).keep hk hs⟩
theorem StmtsV.mono {v : Value} {l : List ST} (h : StmtsV F w v l) (hF : ∀ b, F b → F' b) : StmtsV F' w v l := by
 obtain ⟨a, cap, cc, hv, hr, hc⟩ := h
 exact ⟨a, cap, cc, hv, hr.mono hF, fun i hi => (hc i hi).mono hF⟩
theorem ExprsV.keep {v : Value} {l : List ET} {fp : List Nat} (h : ExprsV F w v l) (hk : Keep fp w w') (hs : Stays F w fp) : ExprsV F w' v l := by
 obtain ⟨a, cap, cc, hv, hr, hc⟩ := h
 exact ⟨a, cap, cc, hv, hr.keep hk hs, fun i hi => (hc i hi).keep hk hs⟩
theorem StmtsV.at {v : Value} {l : List ST} (h : StmtsV F w v l) {i : Nat} {t : ST} (ht : l[i]? = some t) : ∃ b q cap ci, v = .slice (some ⟨b, q, none⟩) l.length cap ∧ F b ∧ w.rangeAt b (q + i * 12) ci ∧ StmtV F w ci t := by
 obtain ⟨a, cap, cc, hv, hr, hc⟩ := h
 obtain ⟨hlt, e⟩ := List.getElem?_eq_some_iff.1 ht
 obtain ⟨b, q, ha, hF, hra⟩ := hr (by omega)
 exact ⟨b, q, cap, cc i, by rw [hv, ha], hF, hra i hlt, by rw [← e]; exact hc i hlt⟩
theorem ExprsV.at {v : Value} {l : List ET} (h : ExprsV F w v l) {i : Nat} {t : ET} (ht : l[i]? = some t) : ∃ b q cap ci, v = .slice (some ⟨b, q, none⟩) l.length cap ∧ F b ∧ w.rangeAt b (q + i * 4) ci ∧ ExprV F w ci t := by
 obtain ⟨a, cap, cc, hv, hr, hc⟩ := h
 obtain ⟨hlt, e⟩ := List.getElem?_eq_some_iff.1 ht
 obtain ⟨b, q, ha, hF, hra⟩ := hr (by omega)
 exact ⟨b, q, cap, cc i, by rw [hv, ha], hF, hra i hlt, by rw [← e]; exact hc i hlt⟩
theorem StmtsV.form {v : Value} {l : List ST} (h : StmtsV F w v l) : ∃ a cap, v = .slice a l.length cap := by
 obtain ⟨a, cap, _, hv, _⟩ := h
 exact ⟨a, cap, hv⟩
theorem ExprsV.form {v : Value} {l : List ET} (h : ExprsV F w v l) : ∃ a cap, v = .slice a l.length cap := by
 obtain ⟨a, cap, _, hv, _⟩ := h
 exact ⟨a, cap, hv⟩
theorem ExprV.inv {op v n : Int} {l : List ET} (h : ExprV F w cs (.mk op v n l)) : ∃ lv, cs = [.int .i64 op, .int .i64 v, .int .i64 n, lv] ∧ ExprsV F w lv l := by
 cases h with
 | mk cc hr hc => exact ⟨_, rfl, _, _, cc, rfl, hr, hc⟩
theorem ExprV.of {op v n : Int} {l : List ET} {lv : Value} (h : ExprsV F w lv l) : ExprV F w [.int .i64 op, .int .i64 v, .int .i64 n, lv] (.mk op v n l) := by
 obtain ⟨a, cap, cc, rfl, hr, hc⟩ := h
 exact .mk cc hr hc
theorem StmtV.inv {op v : Int} {e f : ET} {b o : List ST} (h : StmtV F w cs (.mk op v e f b o)) : ∃ ce cf bv ov, cs = [.int .i64 op, .int .i64 v] ++ ce ++ cf ++ [bv, ov] ∧ ExprV F w ce e ∧ ExprV F w cf f ∧ StmtsV F w bv b ∧ StmtsV F w ov o := by
 cases h with
 | mk cb co he hf hb hcb ho hco => exact ⟨_, _, _, _, rfl, he, hf, ⟨_, _, cb, rfl, hb, hcb⟩, ⟨_, _, co, rfl, ho, hco⟩⟩
theorem StmtV.of {op v : Int} {e f : ET} {b o : List ST} {ce cf : List Value} {bv ov : Value} (he : ExprV F w ce e) (hf : ExprV F w cf f) (hb : StmtsV F w bv b) (ho : StmtsV F w ov o) : StmtV F w ([.int .i64 op, .int .i64 v] ++ ce ++ cf ++ [bv, ov]) (.mk op v e f b o) := by
 obtain ⟨a, cap, cc, rfl, hr, hc⟩ := hb
 obtain ⟨a', cap', cc', rfl, hr', hc'⟩ := ho
 exact .mk cc cc' he hf hr hc hr' hc'
theorem ExprsV.nil : ExprsV F w (.slice none 0 0) [] := ⟨none, 0, fun _ => [], rfl, fun h => absurd h (by simp), fun i h => by simp at h⟩
theorem StmtsV.nil : StmtsV F w (.slice none 0 0) [] := ⟨none, 0, fun _ => [], rfl, fun h => absurd h (by simp), fun i h => by simp at h⟩
end
mutual
def szE : ET → Nat
 | .mk _ _ _ l => 1 + szEs l
def szEs : List ET → Nat
 | [] => 0
 | t :: r => szE t + szEs r
end
mutual
def szS : ST → Nat
 | .mk _ _ e f b o => 1 + szE e + szE f + szSs b + szSs o
def szSs : List ST → Nat
 | [] => 0
 | t :: r => szS t + szSs r
end
end
abbrev VarT := ByteArray × Int
def partsOf (op : Int) : Int := if op = 1 ∨ op = 2 then 0 else if op = 3 then 1 else if 4 ≤ op ∧ op ≤ 8 then 2 else -1
def needE (op : Int) : Bool := op == 1 || op == 2 || op == 3 || op == 5 || op == 6
def needF (op : Int) : Bool := op == 2
def needV (op : Int) : Bool := op == 1 || op == 2 || op == 4
def needB (op : Int) : Bool := op == 5 || op == 6
def needO (op : Int) : Bool := op == 6
def letter (c : UInt8) : Bool := decide (97 ≤ c.toNat) && decide (c.toNat ≤ 122)
def nameOk (s : ByteArray) : Bool := s.data.toList.all letter && decide (1 ≤ s.size) && decide (s.size ≤ 8)
def headK (deep k : Nat) : Except Int Nat := if deep > 12 then .error 4 else if k + 1 > 150 then .error 3 else .ok (k + 1)
def varK (nv : Nat) (v : Int) (has : Bool) : Int := if has then (if v < 0 ∨ v ≥ (nv : Int) then 1 else 0) else (if v ≠ 0 then 5 else 0)
def zeroE : ET → Bool
 | .mk op v n l => op == 0 && v == 0 && n == 0 && l.isEmpty
def nextK (x : Except Int Nat) (f : Nat → Except Int Nat) : Except Int Nat := match x with
 | .error c => .error c
 | .ok k => f k
def ownE (nv : Nat) (op v n : Int) (len : Nat) : Int :=
 if partsOf op < 0 then 2 else if partsOf op ≠ (len : Int) then 5 else if op ≠ 1 ∧ n ≠ 0 then 5 else varK nv v (op == 2 || op == 3)
def ownS (nv : Nat) (op v : Int) (e f : ET) (lb lo : Nat) : Int :=
 if op < 1 ∨ op > 7 then 2
 else if (!needE op && !zeroE e || !needF op && !zeroE f) = true then 5
 else if (!needB op && decide (0 < lb) || !needO op && decide (0 < lo)) = true then 5
 else varK nv v (needV op)
mutual
def chkE (nv : Nat) : ET → Nat → Nat → Except Int Nat
 | .mk op v n l, deep, k => nextK (headK deep k) fun k1 => if ownE nv op v n l.length ≠ 0 then .error (ownE nv op v n l.length) else chkEs nv l (deep + 1) k1
def chkEs (nv : Nat) : List ET → Nat → Nat → Except Int Nat
 | [], _, k => .ok k
 | t :: r, deep, k => nextK (chkE nv t deep k) fun k1 => chkEs nv r deep k1
end
mutual
def chkS (nv : Nat) : ST → Nat → Nat → Except Int Nat
 | .mk op v e f b o, deep, k => nextK (headK deep k) fun k1 => if ownS nv op v e f b.length o.length ≠ 0 then .error (ownS nv op v e f b.length o.length) else
   nextK (if needE op then chkE nv e (deep + 1) k1 else .ok k1) fun k2 => nextK (if needF op then chkE nv f (deep + 1) k2 else .ok k2) fun k3 =>
    nextK (chkSs nv b (deep + 1) k3) fun k4 => chkSs nv o (deep + 1) k4
def chkSs (nv : Nat) : List ST → Nat → Nat → Except Int Nat
 | [], _, k => .ok k
 | t :: r, deep, k => nextK (chkS nv t deep k) fun k1 => chkSs nv r deep k1
end
def codeOf : Except Int Nat → Int
 | .error c => c
 | .ok _ => 0
def chkV (done : List ByteArray) (n : Int) : List VarT → Int
 | [] => 0
 | x :: r => if nameOk x.1 = false then 8 else if (done.any fun s => s.toList == x.1.toList) = true then 9 else if x.2 < 1 ∨ x.2 > 48 ∨ n + x.2 > 48 then 1 else chkV (done ++ [x.1]) (n + x.2) r
def progFault (vs : List VarT) (body : List ST) : Int :=
 if vs.length > 8 then 3 else if chkV [] 0 vs ≠ 0 then chkV [] 0 vs else codeOf (chkSs vs.length body 0 0)
def sumV (vs : List VarT) : Int := (vs.map (·.2)).sum
def cellOf (vs : List VarT) (v : Int) : Int := sumV (vs.take v.toNat)
theorem nextK_ok {x : Except Int Nat} {f : Nat → Except Int Nat} {k' : Nat} (h : nextK x f = .ok k') : ∃ k, x = .ok k ∧ f k = .ok k' := by
 cases x with
 | error c => cases h
 | ok k => exact ⟨k, rfl, h⟩
theorem headK_ok {deep k k' : Nat} (h : headK deep k = .ok k') : k' = k + 1 ∧ deep ≤ 12 ∧ k + 1 ≤ 150 := by
 unfold headK at h
 split at h
 ·cases h
 ·split at h
  ·cases h
  ·injection h with h
   omega
theorem codeOf_ok {x : Except Int Nat} (h : codeOf x = 0) (hne : ∀ c, x = .error c → c ≠ 0) : ∃ k, x = .ok k := by
 cases x with
 | error c => exact absurd h (hne c rfl)
 | ok k => exact ⟨k, rfl⟩
def Coded (x : Except Int Nat) : Prop := ∀ c, x = .error c → c ≠ 0
theorem coded_next {x : Except Int Nat} {f : Nat → Except Int Nat} (hx : Coded x) (hf : ∀ k, Coded (f k)) : Coded (nextK x f) := by
 cases x with
 | error c => exact fun c' h => hx c' h
 | ok k => exact hf k
theorem coded_ok (k : Nat) : Coded (.ok k) := fun c h => by cases h
theorem coded_head (d k : Nat) : Coded (headK d k) := by
 unfold headK
 split
 ·intro c h; cases h; decide
 ·split
  ·intro c h; cases h; decide
  ·exact coded_ok _
theorem coded_unless {c : Int} {x : Except Int Nat} (hx : Coded x) : Coded (if c ≠ 0 then .error c else x) := by
 split
 ·rename_i h
  intro c' e
  cases e
  exact h
 ·exact hx
mutual
theorem codedE (nv : Nat) : ∀ t d k, Coded (chkE nv t d k)
 | .mk op v n l, d, k => by
  simp only [chkE]
  exact coded_next (coded_head d k) fun k1 => coded_unless (codedEs nv l _ _)
theorem codedEs (nv : Nat) : ∀ l d k, Coded (chkEs nv l d k)
 | [], d, k => by simp only [chkEs]; exact coded_ok k
 | t :: r, d, k => by
  simp only [chkEs]
  exact coded_next (codedE nv t d k) fun k1 => codedEs nv r d k1
end
theorem coded_ite {b : Bool} {x y : Except Int Nat} (hx : Coded x) (hy : Coded y) : Coded (if b then x else y) := by cases b <;> assumption
mutual
theorem codedS (nv : Nat) : ∀ t d k, Coded (chkS nv t d k)
 | .mk op v e f b o, d, k => by
  simp only [chkS]
  exact coded_next (coded_head d k) fun k1 => coded_unless (coded_next (coded_ite (codedE nv e _ _) (coded_ok _)) fun k2 => coded_next (coded_ite (codedE nv f _ _) (coded_ok _)) fun k3 => coded_next (codedSs nv b _ _) fun k4 => codedSs nv o _ _)
theorem codedSs (nv : Nat) : ∀ l d k, Coded (chkSs nv l d k)
 | [], d, k => by simp only [chkSs]; exact coded_ok k
 | t :: r, d, k => by
  simp only [chkSs]
  exact coded_next (codedS nv t d k) fun k1 => codedSs nv r d k1
end
theorem progFault_ok {vs : List VarT} {body : List ST} (h : progFault vs body = 0) : vs.length ≤ 8 ∧ chkV [] 0 vs = 0 ∧ ∃ k, chkSs vs.length body 0 0 = .ok k := by
 unfold progFault at h
 split at h
 ·cases h
 ·split at h
  ·rename_i h1
   exact absurd h h1
  ·rename_i h1 h2
   exact ⟨by omega, by simpa using h2, codeOf_ok h (codedSs _ _ _ _)⟩
theorem chkV_sizes : ∀ {vs : List VarT} {done : List ByteArray} {n : Int}, chkV done n vs = 0 → (∀ x ∈ vs, 1 ≤ x.2 ∧ x.2 ≤ 48) ∧ (n ≤ 48 → n + sumV vs ≤ 48)
 | [], _, n, _ => by simp [sumV]
 | x :: r, done, n, h => by
  unfold chkV at h
  split at h
  ·cases h
  ·split at h
   ·cases h
   ·split at h
    ·cases h
    ·rename_i h3
     obtain ⟨h4, h5⟩ := chkV_sizes h
     refine ⟨fun y hy => ?_, fun _ => ?_⟩
     ·rcases List.mem_cons.1 hy with rfl | hy
      ·omega
      ·exact h4 y hy
     ·have := h5 (by omega)
      simp only [sumV, List.map_cons, List.sum_cons] at this ⊢
      omega
theorem sumV_nonneg {vs : List VarT} (h : ∀ x ∈ vs, 1 ≤ x.2 ∧ x.2 ≤ 48) : 0 ≤ sumV vs := by
 induction vs with
 | nil => simp [sumV]
 | cons x r ih =>
  have h1 := h x (by simp)
  have h2 := ih fun y hy => h y (List.mem_cons_of_mem _ hy)
  simp only [sumV, List.map_cons, List.sum_cons] at h2 ⊢
  omega
theorem sumV_append (a b : List VarT) : sumV (a ++ b) = sumV a + sumV b := by simp [sumV]
theorem sumV_take_succ {vs : List VarT} {i : Nat} {x : VarT} (h : vs[i]? = some x) : sumV (vs.take (i + 1)) = sumV (vs.take i) + x.2 := by
 obtain ⟨hlt, e⟩ := List.getElem?_eq_some_iff.1 h
 rw [List.take_succ_eq_append_getElem hlt, sumV_append, e]
 simp [sumV]
theorem sumV_take_le {vs : List VarT} (h : ∀ x ∈ vs, 1 ≤ x.2 ∧ x.2 ≤ 48) {i j : Nat} (hij : i ≤ j) : sumV (vs.take i) ≤ sumV (vs.take j) := by
 have e : vs.take j = vs.take i ++ (vs.take j).drop i := by
  have e := List.take_append_drop i (vs.take j)
  rw [List.take_take, Nat.min_eq_left hij] at e
  exact e.symm
 rw [e, sumV_append]
 have := sumV_nonneg (vs := (vs.take j).drop i) fun x hx => h x (List.mem_of_mem_take (List.mem_of_mem_drop hx))
 omega
abbrev Is := Int × Int × Int × Int
def sizeV (vs : List VarT) (v : Int) : Int := (vs.getD v.toNat (⟨#[]⟩, 0)).2
mutual
def insE (vs : List VarT) : ET → List Is
 | .mk op v n l => insEs vs l ++ [(op, if op = 2 ∨ op = 3 then cellOf vs v else 0, if op = 3 then sizeV vs v else 0, n)]
def insEs (vs : List VarT) : List ET → List Is
 | [] => []
 | t :: r => insE vs t ++ insEs vs r
end
def lastI (vs : List VarT) (op v : Int) : Is :=
 if op = 1 then (9, cellOf vs v, 0, 0) else if op = 2 then (10, cellOf vs v, sizeV vs v, 0) else if op = 3 then (11, 0, 0, 0) else if op = 4 then (12, cellOf vs v, 0, 0) else (15, 0, 0, 0)
def whileI (i0 : Nat) (l b : List Is) : List Is := l ++ ((13, ((i0 + l.length + 1 + b.length + 1 : Nat) : Int), 0, 0) :: (b ++ [(14, ((i0 : Nat) : Int), 0, 0)]))
def ifI (i0 : Nat) (l b o : List Is) : List Is := l ++ ((13, ((i0 + l.length + 1 + b.length + 1 : Nat) : Int), 0, 0) :: (b ++ ((14, ((i0 + l.length + 1 + b.length + 1 + o.length : Nat) : Int), 0, 0) :: o)))
def eI (vs : List VarT) (op : Int) (e : ET) : List Is := if needE op then insE vs e else []
def fI (vs : List VarT) (op : Int) (f : ET) : List Is := if needF op then insE vs f else []
mutual
def insS (vs : List VarT) : ST → Nat → List Is
 | .mk op v e f b o, i0 =>
  if op = 5 then whileI i0 (eI vs op e) (insSs vs b (i0 + (eI vs op e).length + 1))
  else if op = 6 then ifI i0 (eI vs op e) (insSs vs b (i0 + (eI vs op e).length + 1)) (insSs vs o (i0 + (eI vs op e).length + 1 + (insSs vs b (i0 + (eI vs op e).length + 1)).length + 1))
  else eI vs op e ++ (fI vs op f ++ [lastI vs op v])
def insSs (vs : List VarT) : List ST → Nat → List Is
 | [], _ => []
 | t :: r, i0 => insS vs t i0 ++ insSs vs r (i0 + (insS vs t i0).length)
end
def haltI : Is := (16, 0, 0, 0)
def insP (vs : List VarT) (b : List ST) : List Is := insSs vs b 0 ++ [haltI]
def makeOf (vs : List VarT) (b : List ST) : List Is := if progFault vs b = 0 then insP vs b else []
theorem insEs_append (vs : List VarT) : ∀ (a b : List ET), insEs vs (a ++ b) = insEs vs a ++ insEs vs b
 | [], b => by simp [insEs]
 | t :: r, b => by simp only [List.cons_append, insEs, insEs_append vs r b, List.append_assoc]
theorem insSs_append (vs : List VarT) : ∀ (a b : List ST) (i0 : Nat), insSs vs (a ++ b) i0 = insSs vs a i0 ++ insSs vs b (i0 + (insSs vs a i0).length)
 | [], b, i0 => by simp [insSs]
 | t :: r, b, i0 => by
  simp only [List.cons_append, insSs, insSs_append vs r b, List.append_assoc, List.length_append]
  rw [Nat.add_assoc]
theorem insEs_take (vs : List VarT) {l : List ET} {i : Nat} {t : ET} (h : l[i]? = some t) : insEs vs (l.take (i + 1)) = insEs vs (l.take i) ++ insE vs t := by
 obtain ⟨hi, rfl⟩ := List.getElem?_eq_some_iff.1 h
 rw [List.take_succ_eq_append_getElem hi, insEs_append]
 simp [insEs]
theorem insSs_take (vs : List VarT) {l : List ST} {i : Nat} {t : ST} (h : l[i]? = some t) (i0 : Nat) : insSs vs (l.take (i + 1)) i0 = insSs vs (l.take i) i0 ++ insS vs t (i0 + (insSs vs (l.take i) i0).length) := by
 obtain ⟨hi, rfl⟩ := List.getElem?_eq_some_iff.1 h
 rw [List.take_succ_eq_append_getElem hi, insSs_append]
 simp [insSs]
mutual
theorem insE_len (vs : List VarT) : ∀ (t : ET), (insE vs t).length = szE t
 | .mk op v n l => by simp [insE, szE, insEs_len vs l]; omega
theorem insEs_len (vs : List VarT) : ∀ (l : List ET), (insEs vs l).length = szEs l
 | [] => by simp [insEs, szEs]
 | t :: r => by simp [insEs, szEs, insE_len vs t, insEs_len vs r]
end
theorem eI_len (vs : List VarT) (op : Int) (e : ET) : (eI vs op e).length ≤ szE e := by
 unfold eI
 split
 ·rw [insE_len]; exact Nat.le_refl _
 ·simp
theorem fI_len (vs : List VarT) (op : Int) (f : ET) : (fI vs op f).length ≤ szE f := by
 unfold fI
 split
 ·rw [insE_len]; exact Nat.le_refl _
 ·simp
mutual
theorem insS_len (vs : List VarT) : ∀ (t : ST) (i0 : Nat), (insS vs t i0).length ≤ 2 * szS t
 | .mk op v e f b o, i0 => by
  have h1 := eI_len vs op e
  have h2 := fI_len vs op f
  have h3 := insSs_len vs b (i0 + (eI vs op e).length + 1)
  have h4 := insSs_len vs o (i0 + (eI vs op e).length + 1 + (insSs vs b (i0 + (eI vs op e).length + 1)).length + 1)
  simp only [insS, szS]
  split
  ·simp [whileI]; omega
  ·split
   ·simp [ifI]; omega
   ·simp; omega
theorem insSs_len (vs : List VarT) : ∀ (l : List ST) (i0 : Nat), (insSs vs l i0).length ≤ 2 * szSs l
 | [], _ => by simp [insSs, szSs]
 | t :: r, i0 => by
  have h1 := insS_len vs t i0
  have h2 := insSs_len vs r (i0 + (insS vs t i0).length)
  simp only [insSs, szSs, List.length_append]
  omega
end
def popI (op : Int) : Nat := if op = 3 ∨ op = 9 ∨ op = 11 ∨ op = 13 then 1 else if (4 ≤ op ∧ op ≤ 8) ∨ op = 10 then 2 else 0
def pushI (op : Int) : Nat := if 1 ≤ op ∧ op ≤ 8 then 1 else 0
structure OkI (cells : Int) (n : Nat) (x : Is) : Prop where
 pop : popI x.1 ≤ n
 room : n - popI x.1 + pushI x.1 ≤ 24
 jump : x.1 = 13 ∨ x.1 = 14 → n - popI x.1 + pushI x.1 = 0
 halt : x.1 ≠ 16
 cell : x.1 = 2 ∨ x.1 = 9 ∨ x.1 = 12 → 0 ≤ x.2.1 ∧ x.2.1 < cells
 many : x.1 = 3 ∨ x.1 = 10 → 0 ≤ x.2.1 ∧ 1 ≤ x.2.2.1 ∧ x.2.1 + x.2.2.1 ≤ cells
inductive Sim (cells : Int) : Nat → List Is → Nat → Prop
 | nil (n : Nat) : Sim cells n [] n
 | cons {n m : Nat} {x : Is} {r : List Is} (h : OkI cells n x) (hr : Sim cells (n - popI x.1 + pushI x.1) r m) : Sim cells n (x :: r) m
theorem Sim.app {c : Int} {n m k : Nat} {a b : List Is} (h : Sim c n a m) (h' : Sim c m b k) : Sim c n (a ++ b) k := by
 induction h with
 | nil => exact h'
 | cons h _ ih => exact .cons h (ih h')
theorem Sim.one {c : Int} {n : Nat} {x : Is} (h : OkI c n x) : Sim c n [x] (n - popI x.1 + pushI x.1) := .cons h (.nil _)
theorem Sim.one' {c : Int} {n m : Nat} {x : Is} (h : OkI c n x) (hm : n - popI x.1 + pushI x.1 = m) : Sim c n [x] m := hm ▸ Sim.one h
theorem Sim.det {c : Int} {n m m' : Nat} {a : List Is} (h : Sim c n a m) (h' : Sim c n a m') : m = m' := by
 induction h with
 | nil => cases h'; rfl
 | cons _ _ ih => cases h' with | cons _ h2 => exact ih h2
theorem Sim.at {c : Int} {n m : Nat} {a : List Is} (h : Sim c n a m) : ∀ (i : Nat), i ≤ a.length → ∃ k, Sim c n (a.take i) k ∧ ∀ x, a[i]? = some x → OkI c k x ∧ Sim c n (a.take (i + 1)) (k - popI x.1 + pushI x.1) := by
 induction h with
 | nil n => intro i hi; exact ⟨n, by simp only [List.take_nil]; exact .nil n, fun x hx => by simp at hx⟩
 | @cons n m x r hx hr ih =>
  intro i hi
  cases i with
  | zero => exact ⟨n, .nil n, fun y hy => by simp at hy; subst hy; exact ⟨hx, by simp only [List.take_succ_cons, List.take_zero]; exact Sim.one hx⟩⟩
  | succ i =>
   obtain ⟨k, h1, h2⟩ := ih i (by simpa using hi)
   exact ⟨k, .cons hx h1, fun y hy => by
    obtain ⟨h3, h4⟩ := h2 y (by simpa using hy)
    exact ⟨h3, .cons hx h4⟩⟩
def Big (vs : List VarT) : Prop := ∀ x ∈ vs, 1 ≤ x.2
theorem sumV_big : ∀ {vs : List VarT}, Big vs → 0 ≤ sumV vs
 | [], _ => by simp [sumV]
 | x :: r, h => by
  have h1 := h x (by simp)
  have h2 := sumV_big (vs := r) fun y hy => h y (by simp [hy])
  simp only [sumV, List.map_cons, List.sum_cons] at h2 ⊢
  omega
theorem cell_nat : ∀ (vs : List VarT), Big vs → ∀ (k : Nat), k < vs.length → 0 ≤ sumV (vs.take k) ∧ 1 ≤ (vs.getD k (⟨#[]⟩, 0)).2 ∧ sumV (vs.take k) + (vs.getD k (⟨#[]⟩, 0)).2 ≤ sumV vs
 | [], _, k, hk => by simp at hk
 | x :: r, h, 0, _ => by
  have h1 := h x (by simp)
  have h2 := sumV_big (vs := r) fun y hy => h y (by simp [hy])
  simp only [sumV, List.take_zero, List.map_nil, List.sum_nil, List.map_cons, List.sum_cons, List.getD_cons_zero] at h2 ⊢
  omega
 | x :: r, h, k + 1, hk => by
  have h1 := h x (by simp)
  have ih := cell_nat r (fun y hy => h y (by simp [hy])) k (by simpa using hk)
  simp only [sumV, List.take_succ_cons, List.map_cons, List.sum_cons, List.getD_cons_succ] at ih ⊢
  omega
theorem cell_in {vs : List VarT} (h : Big vs) {v : Int} (hv : v.toNat < vs.length) : 0 ≤ cellOf vs v ∧ 1 ≤ sizeV vs v ∧ cellOf vs v + sizeV vs v ≤ sumV vs := cell_nat vs h _ hv
def zeroT : ET := .mk 0 0 0 []
theorem chkE_inv {nv : Nat} {op v n : Int} {l : List ET} {d k k' : Nat} (h : chkE nv (.mk op v n l) d k = .ok k') : d ≤ 12 ∧ ownE nv op v n l.length = 0 ∧ ∃ k1, chkEs nv l (d + 1) k1 = .ok k' := by
 simp only [chkE] at h
 obtain ⟨k1, h1, h2⟩ := nextK_ok h
 split at h2
 ·cases h2
 ·rename_i h3
  exact ⟨(headK_ok h1).2.1, by simpa using h3, k1, h2⟩
theorem chkEs_inv {nv : Nat} {t : ET} {r : List ET} {d k k' : Nat} (h : chkEs nv (t :: r) d k = .ok k') : (∃ k1, chkE nv t d k = .ok k1) ∧ ∃ k1, chkEs nv r d k1 = .ok k' := by
 simp only [chkEs] at h
 obtain ⟨k1, h1, h2⟩ := nextK_ok h
 exact ⟨⟨k1, h1⟩, k1, h2⟩
theorem chkS_inv {nv : Nat} {op v : Int} {e f : ET} {b o : List ST} {d k k' : Nat} (h : chkS nv (.mk op v e f b o) d k = .ok k') : d ≤ 12 ∧ ownS nv op v e f b.length o.length = 0 ∧
  (needE op = true → ∃ k1 k2, chkE nv e (d + 1) k1 = .ok k2) ∧ (needF op = true → ∃ k1 k2, chkE nv f (d + 1) k1 = .ok k2) ∧ (∃ k1 k2, chkSs nv b (d + 1) k1 = .ok k2) ∧ ∃ k1 k2, chkSs nv o (d + 1) k1 = .ok k2 := by
 simp only [chkS] at h
 obtain ⟨k1, h1, h2⟩ := nextK_ok h
 split at h2
 ·cases h2
 ·rename_i h3
  obtain ⟨k2, h4, h5⟩ := nextK_ok h2
  obtain ⟨k3, h6, h7⟩ := nextK_ok h5
  obtain ⟨k4, h8, h9⟩ := nextK_ok h7
  refine ⟨(headK_ok h1).2.1, by simpa using h3, fun he => ⟨k1, k2, ?_⟩, fun hf => ⟨k2, k3, ?_⟩, ⟨_, _, h8⟩, _, _, h9⟩
  ·rw [if_pos he] at h4; exact h4
  ·rw [if_pos hf] at h6; exact h6
theorem chkSs_inv {nv : Nat} {t : ST} {r : List ST} {d k k' : Nat} (h : chkSs nv (t :: r) d k = .ok k') : (∃ k1, chkS nv t d k = .ok k1) ∧ ∃ k1, chkSs nv r d k1 = .ok k' := by
 simp only [chkSs] at h
 obtain ⟨k1, h1, h2⟩ := nextK_ok h
 exact ⟨⟨k1, h1⟩, k1, h2⟩
theorem varK_in {nv : Nat} {v : Int} (h : varK nv v true = 0) : 0 ≤ v ∧ v.toNat < nv := by
 unfold varK at h
 rw [if_pos rfl] at h
 split at h
 ·cases h
 ·omega
theorem varK_no {nv : Nat} {v : Int} (h : varK nv v false = 0) : v = 0 := by
 unfold varK at h
 rw [if_neg (by decide)] at h
 split at h
 ·cases h
 ·omega
theorem ownE_inv {nv : Nat} {op v n : Int} {len : Nat} (h : ownE nv op v n len = 0) : 1 ≤ op ∧ op ≤ 8 ∧ partsOf op = (len : Int) ∧ (op ≠ 1 → n = 0) ∧ (op = 2 ∨ op = 3 → 0 ≤ v ∧ v.toNat < nv) ∧ (¬ (op = 2 ∨ op = 3) → v = 0) := by
 unfold ownE at h
 split at h
 ·cases h
 ·rename_i h1
  split at h
  ·cases h
  ·rename_i h2
   split at h
   ·cases h
   ·rename_i h3
    have hop : 1 ≤ op ∧ op ≤ 8 := by
     unfold partsOf at h1
     split at h1
     ·omega
     ·split at h1
      ·omega
      ·split at h1 <;> omega
    refine ⟨hop.1, hop.2, by simpa using h2, fun h4 => ?_, fun h4 => ?_, fun h4 => ?_⟩
    ·by_cases hn : n = 0
     ·exact hn
     ·exact absurd ⟨h4, hn⟩ h3
    ·have e : (op == 2 || op == 3) = true := by simpa using h4
     rw [e] at h
     exact varK_in h
    ·have e : (op == 2 || op == 3) = false := by
      cases hb : (op == 2 || op == 3) with
      | false => rfl
      | true => exact absurd (by simpa using hb) h4
     rw [e] at h
     exact varK_no h
theorem zeroT_eq {t : ET} (h : zeroE t = true) : t = zeroT := by
 obtain ⟨op, v, n, l⟩ := t
 simp only [zeroE, Bool.and_eq_true, beq_iff_eq, List.isEmpty_iff] at h
 obtain ⟨⟨⟨rfl, rfl⟩, rfl⟩, rfl⟩ := h
 rfl
theorem ownS_inv {nv : Nat} {op v : Int} {e f : ET} {lb lo : Nat} (h : ownS nv op v e f lb lo = 0) : 1 ≤ op ∧ op ≤ 7 ∧ (needE op = false → e = zeroT) ∧ (needF op = false → f = zeroT) ∧ (needB op = false → lb = 0) ∧ (needO op = false → lo = 0) ∧
  (needV op = true → 0 ≤ v ∧ v.toNat < nv) ∧ (needV op = false → v = 0) := by
 unfold ownS at h
 split at h
 ·cases h
 ·rename_i h1
  split at h
  ·cases h
  ·rename_i h2
   split at h
   ·cases h
   ·rename_i h3
    simp only [Bool.or_eq_true, Bool.and_eq_true, Bool.not_eq_true', not_or, not_and, Bool.not_eq_false] at h2
    simp only [Bool.or_eq_true, Bool.and_eq_true, Bool.not_eq_true', not_or, not_and, decide_eq_true_eq] at h3
    refine ⟨by omega, by omega, fun h4 => zeroT_eq (h2.1 h4), fun h4 => zeroT_eq (h2.2 h4), fun h4 => by have := h3.1 h4; omega, fun h4 => by have := h3.2 h4; omega, fun h4 => ?_, fun h4 => ?_⟩
    ·rw [h4] at h; exact varK_in h
    ·rw [h4] at h; exact varK_no h
section
section
variable {c A B : Int}
theorem ok_else (c A : Int) : OkI c 1 (13, A, 0, 0) := ⟨by show popI 13 ≤ 1; decide, by show 1 - popI 13 + pushI 13 ≤ 24; decide, fun _ => by show 1 - popI 13 + pushI 13 = 0; decide, by show (13 : Int) ≠ 16; decide, fun hc => absurd hc (by show ¬ ((13 : Int) = 2 ∨ (13 : Int) = 9 ∨ (13 : Int) = 12); decide), fun hc => absurd hc (by show ¬ ((13 : Int) = 3 ∨ (13 : Int) = 10); decide)⟩
theorem ok_jump (c A : Int) : OkI c 0 (14, A, 0, 0) := ⟨by show popI 14 ≤ 0; decide, by show 0 - popI 14 + pushI 14 ≤ 24; decide, fun _ => by show 0 - popI 14 + pushI 14 = 0; decide, by show (14 : Int) ≠ 16; decide, fun hc => absurd hc (by show ¬ ((14 : Int) = 2 ∨ (14 : Int) = 9 ∨ (14 : Int) = 12); decide), fun hc => absurd hc (by show ¬ ((14 : Int) = 3 ∨ (14 : Int) = 10); decide)⟩
theorem ok_set (h0 : 0 ≤ A) (h1 : A < c) : OkI c 1 (9, A, 0, 0) := ⟨by show popI 9 ≤ 1; decide, by show 1 - popI 9 + pushI 9 ≤ 24; decide, fun hc => absurd hc (by show ¬ ((9 : Int) = 13 ∨ (9 : Int) = 14); decide), by show (9 : Int) ≠ 16; decide, fun _ => ⟨h0, h1⟩, fun hc => absurd hc (by show ¬ ((9 : Int) = 3 ∨ (9 : Int) = 10); decide)⟩
theorem ok_read (h0 : 0 ≤ A) (h1 : A < c) : OkI c 0 (12, A, 0, 0) := ⟨by show popI 12 ≤ 0; decide, by show 0 - popI 12 + pushI 12 ≤ 24; decide, fun hc => absurd hc (by show ¬ ((12 : Int) = 13 ∨ (12 : Int) = 14); decide), by show (12 : Int) ≠ 16; decide, fun _ => ⟨h0, h1⟩, fun hc => absurd hc (by show ¬ ((12 : Int) = 3 ∨ (12 : Int) = 10); decide)⟩
theorem ok_put (h0 : 0 ≤ A) (h1 : 1 ≤ B) (h2 : A + B ≤ c) : OkI c 2 (10, A, B, 0) := ⟨by show popI 10 ≤ 2; decide, by show 2 - popI 10 + pushI 10 ≤ 24; decide, fun hc => absurd hc (by show ¬ ((10 : Int) = 13 ∨ (10 : Int) = 14); decide), by show (10 : Int) ≠ 16; decide, fun hc => absurd hc (by show ¬ ((10 : Int) = 2 ∨ (10 : Int) = 9 ∨ (10 : Int) = 12); decide), fun _ => ⟨h0, h1, h2⟩⟩
end
section
variable {vs : List VarT}
theorem parts_le {op : Int} {len : Nat} (h : partsOf op = (len : Int)) : len ≤ 2 ∧ (op = 1 ∨ op = 2 → len = 0) ∧ (op = 3 → len = 1) ∧ (4 ≤ op → len = 2) := by
 unfold partsOf at h
 split at h
 ·omega
 ·split at h
  ·omega
  ·split at h <;> omega
mutual
theorem sim_E (hB : Big vs) : ∀ (t : ET) {d k k' : Nat}, chkE vs.length t d k = .ok k' → ∀ (n : Nat), n + (13 - d) ≤ 24 → Sim (sumV vs) n (insE vs t) (n + 1)
 | .mk op v m l, d, k, k', h, n, hn => by
  obtain ⟨hd, h1, k1, h2⟩ := chkE_inv h
  obtain ⟨a1, a2, a3, _, a5, _⟩ := ownE_inv h1
  obtain ⟨p1, p2, p3, p4⟩ := parts_le a3
  have ih := sim_Es hB l h2 n (by omega)
  simp only [insE]
  refine ih.app ?_
  have hop : op = 1 ∨ op = 2 ∨ op = 3 ∨ (4 ≤ op ∧ op ≤ 8) := by omega
  have hpop : popI op = l.length := by
   unfold popI
   split
   ·rename_i hc
    have : op = 3 := by omega
    rw [p3 this]
   ·split
    ·rename_i hc
     rw [p4 (by omega)]
    ·rw [p2 (by omega)]
  have hpush : pushI op = 1 := by
   unfold pushI
   rw [if_pos (by omega)]
  refine Sim.one' ⟨?_, ?_, fun hj => ?_, ?_, fun hc => ?_, fun hc => ?_⟩ ?_
  ·show popI op ≤ _; omega
  ·show n + l.length - popI op + pushI op ≤ 24
   have : 1 ≤ 13 - d := by omega
   omega
  ·exact absurd hj (by simp only; omega)
  ·show op ≠ 16; omega
  ·have h2 : op = 2 := by simp only at hc; omega
   obtain ⟨c1, c2, c3⟩ := cell_in hB (a5 (.inl h2)).2
   simp only
   rw [if_pos (.inl h2)]
   omega
  ·have h3 : op = 3 := by simp only at hc; omega
   obtain ⟨c1, c2, c3⟩ := cell_in hB (a5 (.inr h3)).2
   simp only
   rw [if_pos (.inr h3), if_pos h3]
   omega
  ·show n + l.length - popI op + pushI op = n + 1; omega
theorem sim_Es (hB : Big vs) : ∀ (l : List ET) {d k k' : Nat}, chkEs vs.length l d k = .ok k' → ∀ (n : Nat), n + l.length + (13 - d) ≤ 25 → Sim (sumV vs) n (insEs vs l) (n + l.length)
 | [], _, _, _, _, n, _ => by simp only [insEs, List.length_nil, Nat.add_zero]; exact .nil n
 | t :: r, d, k, k', h, n, hn => by
  obtain ⟨⟨k1, h1⟩, k2, h2⟩ := chkEs_inv h
  simp only [List.length_cons] at hn
  have i1 := sim_E hB t h1 n (by omega)
  have i2 := sim_Es hB r h2 (n + 1) (by omega)
  simp only [insEs, List.length_cons]
  have e : n + (r.length + 1) = n + 1 + r.length := by omega
  rw [e]
  exact i1.app i2
end
mutual
theorem sim_S (hB : Big vs) : ∀ (t : ST) {d k k' : Nat}, chkS vs.length t d k = .ok k' → ∀ (i0 : Nat), Sim (sumV vs) 0 (insS vs t i0) 0
 | .mk op v e f b o, d, k, k', h, i0 => by
  obtain ⟨hd, h1, h2, h3, ⟨k1, k2, h4⟩, k3, k4, h5⟩ := chkS_inv h
  obtain ⟨a1, a2, _, _, _, _, a7, _⟩ := ownS_inv h1
  have se : Sim (sumV vs) 0 (eI vs op e) (if needE op then 1 else 0) := by
   unfold eI
   cases hn : needE op with
   | false => exact .nil 0
   | true =>
    obtain ⟨_, _, hc⟩ := h2 hn
    exact sim_E hB e hc 0 (by omega)
  have sb := fun i => sim_Ss hB b h4 i
  have so := fun i => sim_Ss hB o h5 i
  simp only [insS]
  split
  ·rename_i h6
   subst h6
   have se' : Sim (sumV vs) 0 (eI vs 5 e) 1 := se
   unfold whileI
   exact se'.app (.cons (ok_else _ _) ((sb _).app (Sim.one' (ok_jump _ _) rfl)))
  ·split
   ·rename_i h6
    subst h6
    have se' : Sim (sumV vs) 0 (eI vs 6 e) 1 := se
    unfold ifI
    exact se'.app (.cons (ok_else _ _) ((sb _).app (.cons (ok_jump _ _) (so _))))
   ·have hop : op = 1 ∨ op = 2 ∨ op = 3 ∨ op = 4 ∨ op = 7 := by omega
    rcases hop with rfl | rfl | rfl | rfl | rfl
    ·obtain ⟨c1, c2, c3⟩ := cell_in hB (a7 rfl).2
     have se' : Sim (sumV vs) 0 (eI vs 1 e) 1 := se
     refine se'.app (Sim.one' (ok_set c1 (by omega)) rfl)
    ·obtain ⟨c1, c2, c3⟩ := cell_in hB (a7 rfl).2
     have se' : Sim (sumV vs) 0 (eI vs 2 e) 1 := se
     obtain ⟨_, _, hc⟩ := h3 rfl
     have sf : Sim (sumV vs) 1 (fI vs 2 f) 2 := sim_E hB f hc 1 (by omega)
     refine se'.app (sf.app (Sim.one' (ok_put c1 c2 c3) rfl))
    ·have se' : Sim (sumV vs) 0 (eI vs 3 e) 1 := se
     refine se'.app (Sim.one' (x := (11, 0, 0, 0)) ⟨by decide, by decide, fun hc => absurd hc (by decide), by decide, fun hc => absurd hc (by decide), fun hc => absurd hc (by decide)⟩ (by decide))
    ·obtain ⟨c1, c2, c3⟩ := cell_in hB (a7 rfl).2
     have se' : Sim (sumV vs) 0 (eI vs 4 e) 0 := se
     refine se'.app (Sim.one' (ok_read c1 (by omega)) rfl)
    ·have se' : Sim (sumV vs) 0 (eI vs 7 e) 0 := se
     refine se'.app (Sim.one' (x := (15, 0, 0, 0)) ⟨by decide, by decide, fun hc => absurd hc (by decide), by decide, fun hc => absurd hc (by decide), fun hc => absurd hc (by decide)⟩ (by decide))
theorem sim_Ss (hB : Big vs) : ∀ (l : List ST) {d k k' : Nat}, chkSs vs.length l d k = .ok k' → ∀ (i0 : Nat), Sim (sumV vs) 0 (insSs vs l i0) 0
 | [], _, _, _, _, _ => .nil 0
 | t :: r, d, k, k', h, i0 => by
  obtain ⟨⟨k1, h1⟩, k2, h2⟩ := chkSs_inv h
  exact (sim_S hB t h1 i0).app (sim_Ss hB r h2 _)
end
def Jmp (c : Int) (i0 : Nat) (l : List Is) (x : Is) : Prop := ∃ k : Nat, x.2.1 = ((i0 + k : Nat) : Int) ∧ k ≤ l.length ∧ Sim c 0 (l.take k) 0
def Jmps (c : Int) (i0 : Nat) (l : List Is) : Prop := ∀ x ∈ l, x.1 = 13 ∨ x.1 = 14 → Jmp c i0 l x
theorem Jmp.right {c : Int} {i0 : Nat} {a b : List Is} {x : Is} (h : Jmp c i0 a x) : Jmp c i0 (a ++ b) x := by
 obtain ⟨k, h1, h2, h3⟩ := h
 exact ⟨k, h1, by simp; omega, by rw [List.take_append_of_le_length h2]; exact h3⟩
theorem Jmp.left {c : Int} {i0 : Nat} {a b : List Is} {x : Is} (ha : Sim c 0 a 0) (h : Jmp c (i0 + a.length) b x) : Jmp c i0 (a ++ b) x := by
 obtain ⟨k, h1, h2, h3⟩ := h
 refine ⟨a.length + k, by rw [h1]; congr 1; omega, by simp; omega, ?_⟩
 rw [List.take_append, List.take_of_length_le (by omega)]
 have e : a.length + k - a.length = k := by omega
 rw [e]
 exact ha.app h3
theorem Jmps.app {c : Int} {i0 : Nat} {a b : List Is} (ha : Sim c 0 a 0) (h : Jmps c i0 a) (h' : Jmps c (i0 + a.length) b) : Jmps c i0 (a ++ b) := fun x hx hj => by
 rcases List.mem_append.1 hx with hx | hx
 ·exact (h x hx hj).right
 ·exact (h' x hx hj).left ha
mutual
theorem noJ_E : ∀ (t : ET) {d k k' : Nat}, chkE vs.length t d k = .ok k' → ∀ x ∈ insE vs t, x.1 ≤ 8
 | .mk op v m l, d, k, k', h, x, hx => by
  obtain ⟨hd, h1, k1, h2⟩ := chkE_inv h
  obtain ⟨a1, a2, _⟩ := ownE_inv h1
  simp only [insE, List.mem_append, List.mem_singleton] at hx
  rcases hx with hx | rfl
  ·exact noJ_Es l h2 x hx
  ·exact a2
theorem noJ_Es : ∀ (l : List ET) {d k k' : Nat}, chkEs vs.length l d k = .ok k' → ∀ x ∈ insEs vs l, x.1 ≤ 8
 | [], _, _, _, _, x, hx => by simp [insEs] at hx
 | t :: r, d, k, k', h, x, hx => by
  obtain ⟨⟨k1, h1⟩, k2, h2⟩ := chkEs_inv h
  simp only [insEs, List.mem_append] at hx
  rcases hx with hx | hx
  ·exact noJ_E t h1 x hx
  ·exact noJ_Es r h2 x hx
end
mutual
theorem jmp_S (hB : Big vs) : ∀ (t : ST) {d k k' : Nat}, chkS vs.length t d k = .ok k' → ∀ (i0 : Nat), Jmps (sumV vs) i0 (insS vs t i0)
 | .mk op v e f b o, d, k, k', h, i0 => by
  have hsim := sim_S hB (.mk op v e f b o) h i0
  obtain ⟨hd, h1, h2, h3, ⟨k1, k2, h4⟩, k3, k4, h5⟩ := chkS_inv h
  obtain ⟨a1, a2, _, _, _, _, a7, _⟩ := ownS_inv h1
  have ne : ∀ x ∈ eI vs op e, x.1 ≤ 8 := by
   unfold eI
   split
   ·rename_i hn
    obtain ⟨_, _, hc⟩ := h2 hn
    exact noJ_E e hc
   ·simp
  have nf : ∀ x ∈ fI vs op f, x.1 ≤ 8 := by
   unfold fI
   split
   ·rename_i hn
    obtain ⟨_, _, hc⟩ := h3 hn
    exact noJ_E f hc
   ·simp
  have sb := fun i => sim_Ss hB b h4 i
  have so := fun i => sim_Ss hB o h5 i
  have jb := fun i => jmp_Ss hB b h4 i
  have jo := fun i => jmp_Ss hB o h5 i
  have whole : Jmp (sumV vs) i0 (insS vs (.mk op v e f b o) i0) (14, ((i0 + (insS vs (.mk op v e f b o) i0).length : Nat) : Int), 0, 0) := ⟨_, rfl, Nat.le_refl _, by rw [List.take_length]; exact hsim⟩
  have begin0 : ∀ l, Jmp (sumV vs) i0 l (14, ((i0 : Nat) : Int), 0, 0) := fun l => ⟨0, by simp, by omega, by simp only [List.take_zero]; exact .nil 0⟩
  simp only [insS] at hsim whole ⊢
  split
  ·rename_i h6
   subst h6
   rw [if_pos rfl] at hsim whole
   obtain ⟨E, hE⟩ : ∃ E, E = eI vs 5 e := ⟨_, rfl⟩
   rw [← hE] at hsim whole ne ⊢
   obtain ⟨X, hX⟩ : ∃ X, X = insSs vs b (i0 + E.length + 1) := ⟨_, rfl⟩
   have sX := sb (i0 + E.length + 1)
   have jX := jb (i0 + E.length + 1)
   rw [← hX] at hsim whole sX jX ⊢
   have head0 : Sim (sumV vs) 0 (E ++ [(13, ((i0 + E.length + 1 + X.length + 1 : Nat) : Int), 0, 0)]) 0 := by
    have se' : Sim (sumV vs) 0 E 1 := by
     rw [hE]
     unfold eI
     obtain ⟨_, _, hc⟩ := h2 rfl
     exact sim_E hB e hc 0 (by omega)
    exact se'.app (Sim.one' (ok_else _ _) rfl)
   have ew : whileI i0 E X = (E ++ [(13, ((i0 + E.length + 1 + X.length + 1 : Nat) : Int), 0, 0)]) ++ (X ++ [(14, ((i0 : Nat) : Int), 0, 0)]) := by simp [whileI]
   have lw : (whileI i0 E X).length = E.length + 1 + X.length + 1 := by simp [whileI]; omega
   intro x hx hj
   have hx' := hx
   simp only [whileI, List.mem_append, List.mem_cons, List.not_mem_nil, or_false] at hx'
   rcases hx' with hx' | rfl | hx' | rfl
   ·have := ne x hx'; omega
   ·obtain ⟨q, q1, q2, q3⟩ := whole
    exact ⟨(whileI i0 E X).length, by rw [lw]; simp only; congr 1; omega, Nat.le_refl _, by rw [List.take_length]; exact hsim⟩
   ·have := (jX x hx' hj).right (b := [(14, ((i0 : Nat) : Int), 0, 0)])
    rw [ew]
    refine Jmp.left head0 ?_
    have el : i0 + (E ++ [(13, ((i0 + E.length + 1 + X.length + 1 : Nat) : Int), 0, 0)] : List Is).length = i0 + E.length + 1 := by simp; omega
    rw [el]
    exact this
   ·exact begin0 _
  ·split
   ·rename_i h5' h6
    subst h6
    rw [if_neg (by decide), if_pos rfl] at hsim whole
    obtain ⟨E, hE⟩ : ∃ E, E = eI vs 6 e := ⟨_, rfl⟩
    rw [← hE] at hsim whole ne ⊢
    obtain ⟨X, hX⟩ : ∃ X, X = insSs vs b (i0 + E.length + 1) := ⟨_, rfl⟩
    have sX := sb (i0 + E.length + 1)
    have jX := jb (i0 + E.length + 1)
    rw [← hX] at hsim whole sX jX ⊢
    obtain ⟨Y, hY⟩ : ∃ Y, Y = insSs vs o (i0 + E.length + 1 + X.length + 1) := ⟨_, rfl⟩
    have sY := so (i0 + E.length + 1 + X.length + 1)
    have jY := jo (i0 + E.length + 1 + X.length + 1)
    rw [← hY] at hsim whole sY jY ⊢
    obtain ⟨H, hH⟩ : ∃ H : List Is, H = E ++ [(13, ((i0 + E.length + 1 + X.length + 1 : Nat) : Int), 0, 0)] := ⟨_, rfl⟩
    obtain ⟨J, hJ⟩ : ∃ J : Is, J = (14, ((i0 + E.length + 1 + X.length + 1 + Y.length : Nat) : Int), 0, 0) := ⟨_, rfl⟩
    have head0 : Sim (sumV vs) 0 H 0 := by
     have se' : Sim (sumV vs) 0 E 1 := by
      rw [hE]
      unfold eI
      obtain ⟨_, _, hc⟩ := h2 rfl
      exact sim_E hB e hc 0 (by omega)
     rw [hH]
     exact se'.app (Sim.one' (ok_else _ _) rfl)
    have hHl : H.length = E.length + 1 := by rw [hH]; simp
    have sJ : Sim (sumV vs) 0 [J] 0 := by
     rw [hJ]
     exact Sim.one' (ok_jump _ _) rfl
    have ew : ifI i0 E X Y = (H ++ (X ++ [J])) ++ Y := by rw [hH, hJ]; simp [ifI]
    have lw : (ifI i0 E X Y).length = E.length + 1 + X.length + 1 + Y.length := by rw [ew]; simp [hHl]; omega
    have sHX : Sim (sumV vs) 0 (H ++ (X ++ [J])) 0 := head0.app (sX.app sJ)
    have lHX : (H ++ (X ++ [J])).length = E.length + 1 + X.length + 1 := by simp [hHl]; omega
    intro x hx hj
    have hx' := hx
    simp only [ifI, List.mem_append, List.mem_cons] at hx'
    rcases hx' with hx' | rfl | hx' | rfl | hx'
    ·have := ne x hx'; omega
    ·refine ⟨E.length + 1 + X.length + 1, by simp only; congr 1; omega, by omega, ?_⟩
     rw [ew, List.take_append_of_le_length (by omega), List.take_of_length_le (by omega)]
     exact sHX
    ·have h7 := (jX x hx' hj).right (b := [J])
     rw [ew]
     refine Jmp.right (Jmp.left head0 ?_)
     rw [hHl]
     exact h7
    ·exact ⟨(ifI i0 E X Y).length, by rw [lw]; simp only; congr 1; omega, Nat.le_refl _, by rw [List.take_length]; exact hsim⟩
    ·have h7 := jY x hx' hj
     rw [ew]
     refine Jmp.left sHX ?_
     rw [lHX]
     have e7 : i0 + (E.length + 1 + X.length + 1) = i0 + E.length + 1 + X.length + 1 := by omega
     rw [e7]
     exact h7
   ·intro x hx hj
    simp only [List.mem_append, List.mem_singleton] at hx
    rcases hx with hx | hx | rfl
    ·have := ne x hx; omega
    ·have := nf x hx; omega
    ·exfalso
     unfold lastI at hj
     repeat' split at hj
     all_goals simp at hj
theorem jmp_Ss (hB : Big vs) : ∀ (l : List ST) {d k k' : Nat}, chkSs vs.length l d k = .ok k' → ∀ (i0 : Nat), Jmps (sumV vs) i0 (insSs vs l i0)
 | [], _, _, _, _, _ => fun x hx => by simp [insSs] at hx
 | t :: r, d, k, k', h, i0 => by
  obtain ⟨⟨k1, h1⟩, k2, h2⟩ := chkSs_inv h
  exact Jmps.app (sim_S hB t h1 i0) (jmp_S hB t h1 i0) (jmp_Ss hB r h2 _)
end
end
end
structure Md where
 next : Nat
 stack : List Int
 read : Nat
 out : Nat
 state : Nat
 cells : List Int
abbrev Pr := List Int × Bool
def putP (p : Pr) (k : Nat) (n : Int) : Pr := if k = p.1.length then (p.1 ++ [n], p.2) else if p.1[k]? = some n then p else (p.1, true)
def topS (s : List Int) : Int := s.getLastD 0
def bitI (b : Bool) : Int := if b then 1 else 0
def ariI (op z y : Int) : Int := if op = 4 then IntKind.i64.wrap (z + y) else if op = 5 then IntKind.i64.wrap (z - y) else if op = 6 then IntKind.i64.wrap (z * y) else if op = 7 then bitI (decide (z < y)) else bitI (z == y)
def cellAt (l : List Int) (k : Int) : Int := l.getD k.toNat 0
def exI (inp : List Int) (x : Is) (m : Md) (p : Pr) : Md × Pr :=
 if x.1 = 1 then ({ m with next := m.next + 1, stack := m.stack ++ [x.2.2.2] }, p)
 else if x.1 = 2 then ({ m with next := m.next + 1, stack := m.stack ++ [cellAt m.cells x.2.1] }, p)
 else if x.1 = 3 then
  (if 0 ≤ topS m.stack ∧ topS m.stack < x.2.2.1 then ({ m with next := m.next + 1, stack := m.stack.dropLast ++ [cellAt m.cells (x.2.1 + topS m.stack)] }, p)
  else ({ m with next := m.next + 1, stack := m.stack.dropLast, state := 13 }, p))
 else if 4 ≤ x.1 ∧ x.1 ≤ 8 then ({ m with next := m.next + 1, stack := m.stack.dropLast.dropLast ++ [ariI x.1 (topS m.stack.dropLast) (topS m.stack)] }, p)
 else if x.1 = 9 then ({ m with next := m.next + 1, stack := m.stack.dropLast, cells := m.cells.set x.2.1.toNat (topS m.stack) }, p)
 else if x.1 = 10 then
  (if 0 ≤ topS m.stack.dropLast ∧ topS m.stack.dropLast < x.2.2.1 then ({ m with next := m.next + 1, stack := m.stack.dropLast.dropLast, cells := m.cells.set (x.2.1 + topS m.stack.dropLast).toNat (topS m.stack) }, p)
  else ({ m with next := m.next + 1, stack := m.stack.dropLast.dropLast, state := 13 }, p))
 else if x.1 = 11 then ({ m with next := m.next + 1, stack := m.stack.dropLast, out := m.out + 1 }, putP p m.out (topS m.stack))
 else if x.1 = 12 then
  (if m.read < inp.length then ({ m with next := m.next + 1, cells := m.cells.set x.2.1.toNat (inp.getD m.read 0), read := m.read + 1 }, p)
  else ({ m with next := m.next + 1, state := 14 }, p))
 else if x.1 = 13 then ({ m with next := if topS m.stack = 0 then x.2.1.toNat else m.next + 1, stack := m.stack.dropLast }, p)
 else if x.1 = 14 then ({ m with next := x.2.1.toNat }, p)
 else if x.1 = 16 then ({ m with next := m.next + 1, state := 1 }, p)
 else ({ m with next := m.next + 1 }, p)
def stB (W : List Is) (inp : List Int) (m : Md) (p : Pr) : Md × Pr := if m.state = 0 then exI inp (W.getD m.next (0, 0, 0, 0)) m p else (m, p)
def comB (W : List Is) (m : Md) : Bool := decide (m.state = 0) && decide ((W.getD m.next (0, 0, 0, 0)).1 = 15)
def mind0 (c : Nat) : Md := ⟨0, [], 0, 0, 0, List.replicate c 0⟩
structure Fit (c : Int) (Q : List Is) (m : Md) (p : Pr) : Prop where
 cells : (m.cells.length : Int) = c
 out : m.out ≤ p.1.length
 next : m.state = 0 → m.next ≤ Q.length
 sim : m.state = 0 → Sim c 0 (Q.take m.next) m.stack.length
theorem putP_len (p : Pr) (k : Nat) (n : Int) : p.1.length ≤ (putP p k n).1.length ∧ (k ≤ p.1.length → k + 1 ≤ (putP p k n).1.length) := by
 unfold putP
 split
 ·simp only [List.length_append, List.length_cons, List.length_nil]; omega
 ·split
  ·exact ⟨Nat.le_refl _, fun h => by omega⟩
  ·exact ⟨Nat.le_refl _, fun h => by show k + 1 ≤ p.1.length; omega⟩
theorem fit0 {c : Nat} {Q : List Is} (p : Pr) : Fit c Q (mind0 c) p := ⟨by simp [mind0], by simp [mind0], fun _ => by simp [mind0], fun _ => by simp only [mind0, List.take_zero]; exact .nil 0⟩
def FitX (c : Int) (Q : List Is) (n k : Nat) (x : Is) : Prop := (n < Q.length ∧ Q[n]? = some x ∧ OkI c k x ∧ Sim c 0 (Q.take (n + 1)) (k - popI x.1 + pushI x.1)) ∨ (n = Q.length ∧ x = haltI ∧ k = 0)
theorem at_halt {c : Int} {Q : List Is} (hQ : Sim c 0 Q 0) {n k : Nat} (hn : n ≤ Q.length) (hs : Sim c 0 (Q.take n) k) : ∃ x, (Q ++ [haltI])[n]? = some x ∧ FitX c Q n k x := by
 by_cases hi : n < Q.length
 ·refine ⟨Q[n], by rw [List.getElem?_append_left hi, List.getElem?_eq_getElem hi], ?_⟩
  obtain ⟨k', h1, h2⟩ := hQ.at n (by omega)
  have := h1.det hs
  subst this
  obtain ⟨h3, h4⟩ := h2 _ (List.getElem?_eq_getElem hi)
  exact .inl ⟨hi, List.getElem?_eq_getElem hi, h3, h4⟩
 ·have : n = Q.length := by omega
  subst this
  rw [List.take_length] at hs
  exact ⟨haltI, by rw [List.getElem?_append_right (Nat.le_refl _), Nat.sub_self]; rfl, .inr ⟨rfl, rfl, hs.det hQ⟩⟩
theorem popI_num (op : Int) : (op = 1 ∨ op = 2 → popI op = 0 ∧ pushI op = 1) ∧ (op = 3 → popI op = 1 ∧ pushI op = 1) ∧ (4 ≤ op ∧ op ≤ 8 → popI op = 2 ∧ pushI op = 1) ∧ (op = 9 ∨ op = 11 ∨ op = 13 → popI op = 1 ∧ pushI op = 0) ∧ (op = 10 → popI op = 2 ∧ pushI op = 0) ∧
  (op < 1 ∨ op = 12 ∨ 13 < op → popI op = 0 ∧ pushI op = 0) := by
 unfold popI pushI
 refine ⟨fun h => ?_, fun h => ?_, fun h => ?_, fun h => ?_, fun h => ?_, fun h => ?_⟩
 ·rw [if_neg (by omega), if_neg (by omega), if_pos (by omega)]; exact ⟨rfl, rfl⟩
 ·rw [if_pos (by omega), if_pos (by omega)]; exact ⟨rfl, rfl⟩
 ·rw [if_neg (by omega), if_pos (by omega), if_pos (by omega)]; exact ⟨rfl, rfl⟩
 ·rw [if_pos (by omega), if_neg (by omega)]; exact ⟨rfl, rfl⟩
 ·rw [if_neg (by omega), if_pos (by omega), if_neg (by omega)]; exact ⟨rfl, rfl⟩
 ·rw [if_neg (by omega), if_neg (by omega), if_neg (by omega)]; exact ⟨rfl, rfl⟩
theorem Fit.step {c : Int} {Q : List Is} (hQ : Sim c 0 Q 0) (hJ : Jmps c 0 Q) {inp : List Int} {m : Md} {p : Pr} (h : Fit c Q m p) : Fit c Q (stB (Q ++ [haltI]) inp m p).1 (stB (Q ++ [haltI]) inp m p).2 := by
 unfold stB
 by_cases hs : ¬ m.state = 0
 ·rw [if_neg hs]; exact h
 replace hs : m.state = 0 := by omega
 rw [if_pos hs]
 have hn := h.next hs
 obtain ⟨x, hx, hf⟩ := at_halt hQ hn (h.sim hs)
 have hg : (Q ++ [haltI]).getD m.next (0, 0, 0, 0) = x := by rw [List.getD_eq_getElem?_getD, hx]; rfl
 rw [hg]
 have hc := h.cells
 have ho := h.out
 rcases hf with ⟨hlt, hxQ, hok, hsim⟩ | ⟨hlt, rfl, hk⟩
 ·obtain ⟨op, A, B, N⟩ := x
  obtain ⟨f1, f2, f3, f4, f5, f6⟩ := hok
  simp only at f1 f2 f3 f4 f5 f6 hsim
  obtain ⟨n1, n2, n3, n4, n5, n6⟩ := popI_num op
  have one : ∀ (s : List Int) (cs : List Int) (rd : Nat) (ou : Nat) (p' : Pr), cs.length = m.cells.length → ou ≤ p'.1.length → s.length = m.stack.length - popI op + pushI op → Fit c Q { m with next := m.next + 1, stack := s, cells := cs, read := rd, out := ou } p' := fun s cs rd ou p' h1 h2 h3 =>
   ⟨by show (cs.length : Int) = c; rw [h1]; exact hc, h2, fun _ => by show m.next + 1 ≤ Q.length; omega, fun _ => by show Sim c 0 (Q.take (m.next + 1)) s.length; rw [h3]; exact hsim⟩
  have off : ∀ (s : List Int) (st : Nat), st ≠ 0 → Fit c Q { m with next := m.next + 1, stack := s, state := st } p := fun s st h1 => ⟨hc, ho, fun h2 => absurd h2 h1, fun h2 => absurd h2 h1⟩
  unfold exI
  simp only
  by_cases e1 : op = 1
  ·rw [if_pos e1]
   exact one _ _ _ _ _ rfl ho (by simp; omega)
  rw [if_neg e1]
  by_cases e2 : op = 2
  ·rw [if_pos e2]
   exact one _ _ _ _ _ rfl ho (by simp; omega)
  rw [if_neg e2]
  by_cases e3 : op = 3
  ·rw [if_pos e3]
   split
   ·exact one _ _ _ _ _ rfl ho (by simp; omega)
   ·exact off _ _ (by decide)
  rw [if_neg e3]
  by_cases e4 : 4 ≤ op ∧ op ≤ 8
  ·rw [if_pos e4]
   exact one _ _ _ _ _ rfl ho (by simp; omega)
  rw [if_neg e4]
  by_cases e9 : op = 9
  ·rw [if_pos e9]
   exact one _ _ _ _ _ (by simp) ho (by simp; omega)
  rw [if_neg e9]
  by_cases e10 : op = 10
  ·rw [if_pos e10]
   split
   ·exact one _ _ _ _ _ (by simp) ho (by simp; omega)
   ·exact off _ _ (by decide)
  rw [if_neg e10]
  by_cases e11 : op = 11
  ·rw [if_pos e11]
   exact one _ _ _ _ _ rfl ((putP_len p m.out _).2 ho) (by simp; omega)
  rw [if_neg e11]
  by_cases e12 : op = 12
  ·rw [if_pos e12]
   split
   ·exact one _ _ _ _ _ (by simp) ho (by omega)
   ·exact off _ _ (by decide)
  rw [if_neg e12]
  by_cases e13 : op = 13
  ·rw [if_pos e13]
   obtain ⟨k, hk1, h2, h3⟩ := hJ _ (List.mem_of_getElem? hxQ) (.inl e13)
   simp only [Nat.zero_add] at hk1
   subst hk1
   have hl0 : m.stack.length - 1 = 0 := by have := f3 (.inl e13); have := n4 (by omega); omega
   by_cases ht : topS m.stack = 0
   ·rw [if_pos ht]
    exact ⟨hc, ho, fun _ => by simpa using h2, fun _ => by simp only [List.length_dropLast, hl0, Int.toNat_natCast]; exact h3⟩
   ·rw [if_neg ht]
    exact one _ _ _ _ _ rfl ho (by simp; omega)
  rw [if_neg e13]
  by_cases e14 : op = 14
  ·rw [if_pos e14]
   obtain ⟨k, hk1, h2, h3⟩ := hJ _ (List.mem_of_getElem? hxQ) (.inr e14)
   simp only [Nat.zero_add] at hk1
   subst hk1
   have hl0 : m.stack.length = 0 := by have := f3 (.inr e14); have := n6 (by omega); omega
   exact ⟨hc, ho, fun _ => by simpa using h2, fun _ => by simp only [hl0, Int.toNat_natCast]; exact h3⟩
  rw [if_neg e14, if_neg f4]
  exact one _ _ _ _ _ rfl ho (by omega)
 ·have e : exI inp haltI m p = ({ m with next := m.next + 1, state := 1 }, p) := rfl
  rw [e]
  exact ⟨hc, ho, fun h2 => absurd h2 (by show ¬ (1 = 0); decide), fun h2 => absurd h2 (by show ¬ (1 = 0); decide)⟩
section
structure Es where
 n : Nat
 read : Nat
 out : List Int
 cells : List Int
abbrev Ex (α : Type) := Except (Nat × Es) α
def bndX {α β : Type} (x : Ex α) (f : α → Ex β) : Ex β := match x with
 | .error e => .error e
 | .ok a => f a
def tick (fuel : Nat) (s : Es) : Ex Es := if s.n < fuel then .ok { s with n := s.n + 1 } else .error (13, s)
section
variable (vs : List VarT) (inp : List Int) (fuel : Nat)
def sayE (op v n : Int) (xs : List Int) (s : Es) : Ex (Int × Es) :=
 if op = 1 then .ok (n, s)
 else if op = 2 then .ok (cellAt s.cells (cellOf vs v), s)
 else if op = 3 then (if 0 ≤ xs.getD 0 0 ∧ xs.getD 0 0 < sizeV vs v then .ok (cellAt s.cells (cellOf vs v + xs.getD 0 0), s) else .error (11, s))
 else .ok (ariI op (xs.getD 0 0) (xs.getD 1 0), s)
mutual
def evE : ET → Es → Ex (Int × Es)
 | .mk op v n l, s => bndX (evEs l s) fun a => bndX (tick fuel a.2) fun s2 => sayE vs op v n a.1 s2
def evEs : List ET → Es → Ex (List Int × Es)
 | [], s => .ok ([], s)
 | t :: r, s => bndX (evE t s) fun a => bndX (evEs r a.2) fun c => .ok (a.1 :: c.1, c.2)
end
def sayS (op v x y : Int) (s : Es) : Ex Es :=
 if op = 1 then .ok { s with cells := s.cells.set (cellOf vs v).toNat x }
 else if op = 2 then (if 0 ≤ x ∧ x < sizeV vs v then .ok { s with cells := s.cells.set (cellOf vs v + x).toNat y } else .error (11, s))
 else if op = 3 then .ok { s with out := s.out ++ [x] }
 else if op = 4 then (if s.read < inp.length then .ok { s with cells := s.cells.set (cellOf vs v).toNat (inp.getD s.read 0), read := s.read + 1 } else .error (12, s))
 else .ok s
def loopX (ce : Es → Ex (Int × Es)) (cb : Es → Ex Es) : Nat → Es → Ex Es
 | 0, s => .error (13, s)
 | g + 1, s => bndX (ce s) fun a => bndX (tick fuel a.2) fun s2 => if a.1 = 0 then .ok s2 else bndX (cb s2) fun s3 => bndX (tick fuel s3) fun s4 => loopX ce cb g s4
mutual
def evS : ST → Es → Ex Es
 | .mk op v e f b o, s =>
  if op = 5 then loopX fuel (evE vs fuel e) (evSs b) (fuel + 1) s
  else if op = 6 then bndX (evE vs fuel e s) fun a => bndX (tick fuel a.2) fun s2 => if a.1 = 0 then evSs o s2 else bndX (evSs b s2) fun s3 => tick fuel s3
  else bndX (if needE op then evE vs fuel e s else .ok (0, s)) fun a => bndX (if needF op then evE vs fuel f a.2 else .ok (0, a.2)) fun c => bndX (tick fuel c.2) fun s2 => sayS vs inp op v a.1 c.1 s2
def evSs : List ST → Es → Ex Es
 | [], s => .ok s
 | t :: r, s => bndX (evS t s) fun s1 => evSs r s1
end
def evP (body : List ST) (s : Es) : Ex Es := bndX (evSs vs inp fuel body s) fun s1 => tick fuel s1
end
def es0 (c : Nat) : Es := ⟨0, 0, [], List.replicate c 0⟩
def runB (W : List Is) (inp : List Int) : Nat → Md × Pr → Md × Pr
 | 0, a => a
 | n + 1, a => runB W inp n (stB W inp a.1 a.2)
theorem runB_add (W : List Is) (inp : List Int) : ∀ (a b : Nat) (x : Md × Pr), runB W inp (a + b) x = runB W inp b (runB W inp a x)
 | 0, b, x => by simp [runB]
 | a + 1, b, x => by
  rw [Nat.succ_add]
  exact runB_add W inp a b _
def goB (W : List Is) (inp : List Int) (n : Nat) (a b : Md × Pr) : Prop := runB W inp n a = b ∧ ∀ k < n, (runB W inp k a).1.state = 0
theorem goB_add {W : List Is} {inp : List Int} {a b : Nat} {x y z : Md × Pr} (h : goB W inp a x y) (h2 : goB W inp b y z) : goB W inp (a + b) x z := by
 refine ⟨by rw [runB_add, h.1, h2.1], fun k hk => ?_⟩
 by_cases hka : k < a
 ·exact h.2 k hka
 ·have e : k = a + (k - a) := by omega
  rw [e, runB_add, h.1]
  exact h2.2 _ (by omega)
def mdOf (i : Nat) (s : List Int) (e : Es) : Md := ⟨i, s, e.read, e.out.length, 0, e.cells⟩
def Sims (W : List Is) (inp : List Int) (fuel : Nat) {α : Type} (m0 : Md) (s : Es) (X : Ex α) (st : α → Es) (tgt : α → Md → Prop) : Prop :=
 match X with
 | .ok a => s.n ≤ (st a).n ∧ (st a).n ≤ fuel ∧ ∃ m, goB W inp ((st a).n - s.n) (m0, (s.out, false)) (m, ((st a).out, false)) ∧ tgt a m
 | .error e => s.n ≤ e.2.n ∧ e.2.n ≤ fuel ∧ ∃ m, goB W inp (e.2.n - s.n) (m0, (s.out, false)) (m, (e.2.out, false)) ∧ m.cells = e.2.cells ∧ ((e.1 = 13 ∧ e.2.n = fuel ∧ m.state = 0) ∨ (e.1 ≠ 13 ∧ e.1 ≠ 0 ∧ m.state = e.1 + 2))
section
variable {W : List Is} {inp : List Int} {fuel : Nat} {α β : Type} {m0 : Md} {s : Es} {X : Ex α} {st : α → Es} {tgt : α → Md → Prop}
theorem Sims.bnd {f : α → Ex β} {st2 : β → Es} {tgt2 : β → Md → Prop} (h : Sims W inp fuel m0 s X st tgt) (h2 : ∀ a m, X = .ok a → tgt a m → s.n ≤ (st a).n → (st a).n ≤ fuel → Sims W inp fuel m (st a) (f a) st2 tgt2) : Sims W inp fuel m0 s (bndX X f) st2 tgt2 := by
 cases hX : X with
 | error e => rw [hX] at h; exact h
 | ok a =>
  rw [hX] at h
  obtain ⟨h1, h3, m, hr, ht⟩ := h
  have h4 := h2 a m hX ht h1 h3
  show Sims W inp fuel m0 s (f a) st2 tgt2
  cases hY : f a with
  | error e =>
   rw [hY] at h4
   obtain ⟨g1, g2, m', g3, g4⟩ := h4
   have en : e.2.n - s.n = ((st a).n - s.n) + (e.2.n - (st a).n) := by omega
   refine ⟨by omega, g2, m', ?_, g4⟩
   rw [en]
   exact goB_add hr g3
  | ok c =>
   rw [hY] at h4
   obtain ⟨g1, g2, m', g3, g4⟩ := h4
   have en : (st2 c).n - s.n = ((st a).n - s.n) + ((st2 c).n - (st a).n) := by omega
   refine ⟨by omega, g2, m', ?_, g4⟩
   rw [en]
   exact goB_add hr g3
theorem Sims.ok {a : α} (hst : st a = s) (hn : s.n ≤ fuel) (ht : tgt a m0) : Sims W inp fuel m0 s (.ok a) st tgt := by
 refine ⟨by rw [hst]; exact Nat.le_refl _, by rw [hst]; exact hn, m0, ?_, ht⟩
 rw [hst, Nat.sub_self]
 exact ⟨rfl, fun k hk => absurd hk (by omega)⟩
theorem Sims.mono {tgt2 : α → Md → Prop} (h : Sims W inp fuel m0 s X st tgt) (ht : ∀ a m, tgt a m → tgt2 a m) : Sims W inp fuel m0 s X st tgt2 := by
 cases X with
 | error e => exact h
 | ok a =>
  obtain ⟨h1, h2, m, h3, h4⟩ := h
  exact ⟨h1, h2, m, h3, ht a m h4⟩
theorem Sims.tick {f : Es → Ex β} {st2 : β → Es} {tgt2 : β → Md → Prop} {x : Is} (hx : W[m0.next]? = some x) (hs : m0.state = 0) (hc : m0.cells = s.cells) (hn : s.n ≤ fuel)
    (h : s.n + 1 ≤ fuel → match f { s with n := s.n + 1 } with
      | .ok a => (st2 a).n = s.n + 1 ∧ (exI inp x m0 (s.out, false)).2 = ((st2 a).out, false) ∧ tgt2 a (exI inp x m0 (s.out, false)).1
      | .error e => e.2.n = s.n + 1 ∧ (exI inp x m0 (s.out, false)).2 = (e.2.out, false) ∧ (exI inp x m0 (s.out, false)).1.cells = e.2.cells ∧ e.1 ≠ 13 ∧ e.1 ≠ 0 ∧ (exI inp x m0 (s.out, false)).1.state = e.1 + 2) : Sims W inp fuel m0 s (bndX (tick fuel s) f) st2 tgt2 := by
  unfold E.tick
  by_cases hlt : s.n < fuel
  · rw [if_pos hlt]
    have h1 := h (by omega)
    have hone : goB W inp 1 (m0, (s.out, false)) (exI inp x m0 (s.out, false)) := by
      refine ⟨?_, fun k hk => by have : k = 0 := by omega
                                 subst this; exact hs⟩
      have hg : W.getD m0.next (0, 0, 0, 0) = x := by rw [List.getD_eq_getElem?_getD, hx]; rfl
      show stB W inp m0 (s.out, false) = _
      unfold stB
      rw [if_pos hs, hg]
    show Sims W inp fuel m0 s (f { s with n := s.n + 1 }) st2 tgt2
    cases hf : f { s with n := s.n + 1 } with
    | ok a =>
      rw [hf] at h1
      obtain ⟨e1, e2, e3⟩ := h1
      refine ⟨by omega, by omega, (exI inp x m0 (s.out, false)).1, ?_, e3⟩
      have : (st2 a).n - s.n = 1 := by omega
      rw [this, ← e2]
      exact hone
    | error e =>
      rw [hf] at h1
      obtain ⟨e1, e2, e3, e4, e5, e6⟩ := h1
      refine ⟨by omega, by omega, (exI inp x m0 (s.out, false)).1, ?_, e3, .inr ⟨e4, e5, e6⟩⟩
      have : e.2.n - s.n = 1 := by omega
      rw [this, ← e2]
      exact hone
  · rw [if_neg hlt]
    refine ⟨Nat.le_refl _, hn, m0, ?_, hc, .inl ⟨rfl, by show s.n = fuel; omega, hs⟩⟩
    show goB W inp (s.n - s.n) _ _
    rw [Nat.sub_self]
    exact ⟨rfl, fun k hk => absurd hk (by omega)⟩
theorem Sims.tick1 {x : Is} (hx : W[m0.next]? = some x) (hs : m0.state = 0) (hc : m0.cells = s.cells) (hn : s.n ≤ fuel) (hp : (exI inp x m0 (s.out, false)).2 = (s.out, false)) : Sims W inp fuel m0 s (E.tick fuel s) id (fun s2 m => s2 = { s with n := s.n + 1 } ∧ m = (exI inp x m0 (s.out, false)).1) := by
 have h := Sims.tick (W := W) (inp := inp) (fuel := fuel) (m0 := m0) (s := s) (f := fun s2 => Except.ok s2) (st2 := id) (tgt2 := fun s2 m => s2 = { s with n := s.n + 1 } ∧ m = (exI inp x m0 (s.out, false)).1) hx hs hc hn (fun _ => ⟨rfl, hp, rfl, rfl⟩)
 have e : bndX (E.tick fuel s) (fun s2 => Except.ok s2) = E.tick fuel s := by
  cases E.tick fuel s <;> rfl
 rw [e] at h
 exact h
end
end
section
theorem exI_fst (inp : List Int) (x : Is) (m : Md) (p p' : Pr) : (exI inp x m p).1 = (exI inp x m p').1 := by
 simp only [exI, apply_ite Prod.fst]
theorem exI_snd (inp : List Int) (x : Is) (m : Md) (p : Pr) : (exI inp x m p).2 = if x.1 = 11 then putP p m.out (topS m.stack) else p := by
 simp only [exI, apply_ite Prod.snd, ite_self]
 repeat' split
 all_goals first
  | rfl
  | (exfalso; omega)
theorem exI_out (inp : List Int) (x : Is) (m : Md) (p : Pr) : (exI inp x m p).1.out = if x.1 = 11 then m.out + 1 else m.out := by
 simp only [exI, apply_ite Prod.fst, apply_ite Md.out, ite_self]
 repeat' split
 all_goals first
  | rfl
  | (exfalso; omega)
section
variable (W : List Is) (inp : List Int) (c : Nat)
def pu (k : Nat) : Md × Pr := runB W inp k (mind0 c, ([], false))
variable {W inp c}
theorem pu_succ (k : Nat) : pu W inp c (k + 1) = stB W inp (pu W inp c k).1 (pu W inp c k).2 := by
 unfold pu
 rw [runB_add]
 rfl
theorem pu_out : ∀ (k : Nat), (pu W inp c k).1.out = (pu W inp c k).2.1.length ∧ (pu W inp c k).2.2 = false
 | 0 => ⟨rfl, rfl⟩
 | k + 1 => by
  obtain ⟨h1, h2⟩ := pu_out k
  rw [pu_succ]
  unfold stB
  split
  ·rw [exI_snd, exI_out]
   split
   ·unfold putP
    rw [if_pos h1]
    simp [h1, h2]
   ·exact ⟨h1, h2⟩
  ·exact ⟨h1, h2⟩
theorem pu_pre1 (k : Nat) : (pu W inp c k).2.1 <+: (pu W inp c (k + 1)).2.1 := by
 rw [pu_succ]
 unfold stB
 split
 ·rw [exI_snd]
  split
  ·unfold putP
   rw [if_pos (pu_out k).1]
   exact List.prefix_append _ _
  ·exact List.prefix_refl _
 ·exact List.prefix_refl _
theorem pu_pre {a g : Nat} (h : a ≤ g) : (pu W inp c a).2.1 <+: (pu W inp c g).2.1 := by
 induction g with
 | zero =>
  have : a = 0 := by omega
  subst this
  exact List.prefix_refl _
 | succ g ih =>
  by_cases e : a = g + 1
  ·subst e; exact List.prefix_refl _
  ·exact (ih (by omega)).trans (pu_pre1 g)
theorem pu_again {a g : Nat} (h : a ≤ g) : stB W inp (pu W inp c a).1 (pu W inp c g).2 = ((pu W inp c (a + 1)).1, (pu W inp c (max g (a + 1))).2) := by
 by_cases e : a = g
 ·subst e
  rw [show max a (a + 1) = a + 1 by omega, pu_succ]
 ·have hmax : max g (a + 1) = g := by omega
  rw [hmax]
  have hp : (pu W inp c (a + 1)).2.1 <+: (pu W inp c g).2.1 := pu_pre (by omega)
  rw [pu_succ] at hp ⊢
  unfold stB at hp ⊢
  by_cases hs : (pu W inp c a).1.state = 0
  ·rw [if_pos hs] at hp ⊢
   rw [if_pos hs]
   refine Prod.ext (exI_fst _ _ _ _ _) ?_
   rw [exI_snd] at hp ⊢
   split
   ·rename_i h11
    rw [if_pos h11] at hp
    show putP (pu W inp c g).2 _ _ = (pu W inp c g).2
    have ho := (pu_out (W := W) (inp := inp) (c := c) a).1
    unfold putP at hp ⊢
    rw [if_pos ho] at hp
    obtain ⟨r, hr⟩ := hp
    have hl := congrArg List.length hr
    simp only [List.length_append, List.length_cons, List.length_nil] at hl
    have hg : (pu W inp c g).2.1[(pu W inp c a).1.out]? = some (topS (pu W inp c a).1.stack) := by
     rw [← hr, ho]
     simp
    rw [if_neg (by omega), if_pos hg]
   ·rfl
  ·rw [if_neg hs, if_neg hs]
end
structure Lf where
 m : Md
 k : Md
 p : Pr
section
variable (W : List Is) (inp : List Int)
def stepL (q : Bool) (x : Lf) : Lf := ⟨(stB W inp x.m x.p).1, if q && comB W x.m then (stB W inp x.m x.p).1 else x.k, (stB W inp x.m x.p).2⟩
def wakeL (x : Lf) : Lf := { x with m := x.k }
def runL : Nat → Lf → Lf × Nat
 | 0, x => (x, 0)
 | n + 1, x => if x.m.state = 0 then ((runL n (stepL W inp true x)).1, (runL n (stepL W inp true x)).2 + 1) else (x, 0)
def tearL (keep : Bool) : Nat → Lf → Lf × Nat
 | 0, x => (x, 0)
 | n + 1, x => if comB W x.m then (wakeL (stepL W inp keep x), 1) else if x.m.state = 0 then ((tearL keep n (stepL W inp true x)).1, (tearL keep n (stepL W inp true x)).2 + 1) else (x, 0)
def doL (kind : Int) (n : Nat) (keep : Bool) (x : Lf) : Lf × Nat := if kind = 2 then (wakeL x, 0) else if kind = 3 then tearL W inp keep n x else runL W inp n x
variable {W inp} {c : Nat}
def InvL (W : List Is) (inp : List Int) (c : Nat) (x : Lf) (g : Nat) : Prop := ∃ a b, x.m = (pu W inp c a).1 ∧ x.k = (pu W inp c b).1 ∧ x.p = (pu W inp c g).2 ∧ a ≤ g ∧ b ≤ g
theorem invL0 : InvL W inp c ⟨mind0 c, mind0 c, ([], false)⟩ 0 := ⟨0, 0, rfl, rfl, rfl, Nat.le_refl _, Nat.le_refl _⟩
theorem InvL.wake {x : Lf} {g : Nat} (h : InvL W inp c x g) : InvL W inp c (wakeL x) g := by
 obtain ⟨a, b, _, h2, h3, _, h5⟩ := h
 exact ⟨b, b, h2, h2, h3, h5, h5⟩
theorem InvL.step {x : Lf} {g : Nat} (h : InvL W inp c x g) (q : Bool) : ∃ g', g ≤ g' ∧ g' ≤ g + 1 ∧ InvL W inp c (stepL W inp q x) g' := by
 obtain ⟨a, b, h1, h2, h3, h4, h5⟩ := h
 have hs := pu_again (W := W) (inp := inp) (c := c) h4
 rw [← h1, ← h3] at hs
 refine ⟨max g (a + 1), by omega, by omega, ?_⟩
 unfold stepL
 rw [hs]
 cases q && comB W x.m
 ·exact ⟨a + 1, b, rfl, h2, rfl, by omega, by omega⟩
 ·exact ⟨a + 1, a + 1, rfl, rfl, rfl, by omega, by omega⟩
theorem InvL.run : ∀ (n : Nat) {x : Lf} {g : Nat}, InvL W inp c x g → ∃ g', g ≤ g' ∧ g' ≤ g + (runL W inp n x).2 ∧ InvL W inp c (runL W inp n x).1 g'
 | 0, x, g, h => ⟨g, Nat.le_refl _, Nat.le_refl _, h⟩
 | n + 1, x, g, h => by
  simp only [runL]
  split
  ·obtain ⟨g1, a1, a2, a3⟩ := h.step true
   obtain ⟨g2, b1, b2, b3⟩ := InvL.run n a3
   exact ⟨g2, by omega, by simp only; omega, b3⟩
  ·exact ⟨g, Nat.le_refl _, Nat.le_refl _, h⟩
theorem InvL.tear (keep : Bool) : ∀ (n : Nat) {x : Lf} {g : Nat}, InvL W inp c x g → ∃ g', g ≤ g' ∧ g' ≤ g + (tearL W inp keep n x).2 ∧ InvL W inp c (tearL W inp keep n x).1 g'
 | 0, x, g, h => ⟨g, Nat.le_refl _, Nat.le_refl _, h⟩
 | n + 1, x, g, h => by
  simp only [tearL]
  split
  ·obtain ⟨g1, a1, a2, a3⟩ := h.step keep
   exact ⟨g1, a1, a2, a3.wake⟩
  split
  ·obtain ⟨g1, a1, a2, a3⟩ := h.step true
   obtain ⟨g2, b1, b2, b3⟩ := InvL.tear keep n a3
   exact ⟨g2, by omega, by simp only; omega, b3⟩
  ·exact ⟨g, Nat.le_refl _, Nat.le_refl _, h⟩
theorem InvL.does {x : Lf} {g : Nat} (h : InvL W inp c x g) (kind : Int) (n : Nat) (keep : Bool) : ∃ g', g ≤ g' ∧ g' ≤ g + (doL W inp kind n keep x).2 ∧ InvL W inp c (doL W inp kind n keep x).1 g' := by
 unfold doL
 split
 ·exact ⟨g, Nat.le_refl _, Nat.le_refl _, h.wake⟩
 split
 ·exact InvL.tear keep n h
 ·exact InvL.run n h
end
end
section
def Seg (W : List Is) (i : Nat) (l : List Is) : Prop := ∀ j x, l[j]? = some x → W[i + j]? = some x
theorem Seg.left {W : List Is} {i : Nat} {a b : List Is} (h : Seg W i (a ++ b)) : Seg W i a := fun j x hx => h j x (by
 have hj := (List.getElem?_eq_some_iff.1 hx).1
 rw [List.getElem?_append_left hj]; exact hx)
theorem Seg.right {W : List Is} {i : Nat} {a b : List Is} (h : Seg W i (a ++ b)) : Seg W (i + a.length) b := fun j x hx => by
 have := h (a.length + j) x (by rw [List.getElem?_append_right (by omega), Nat.add_sub_cancel_left]; exact hx)
 rw [← Nat.add_assoc] at this
 exact this
theorem Seg.head {W : List Is} {i : Nat} {x : Is} {b : List Is} (h : Seg W i (x :: b)) : W[i]? = some x ∧ Seg W (i + 1) b :=
 ⟨h 0 x rfl, fun j y hy => by
  have := h (j + 1) y hy
  rw [Nat.add_comm j 1, ← Nat.add_assoc] at this
  exact this⟩
theorem top_app (s : List Int) (x : Int) : topS (s ++ [x]) = x := by simp [topS]
theorem drop_app (s : List Int) (x : Int) : (s ++ [x]).dropLast = s := by simp
section
variable {vs : List VarT} {W : List Is} {inp : List Int} {fuel : Nat}
mutual
theorem simE : ∀ (t : ET) {d k k' : Nat}, chkE vs.length t d k = .ok k' → ∀ (i : Nat) (s : List Int) (e : Es), Seg W i (insE vs t) → e.n ≤ fuel →
  Sims W inp fuel (mdOf i s e) e (evE vs fuel t e) (fun a => a.2) (fun a m => m = mdOf (i + (insE vs t).length) (s ++ [a.1]) a.2)
 | .mk op v n l, d, k, k', h, i, s, e, hW, hn => by
  obtain ⟨_, h1, k1, h2⟩ := chkE_inv h
  obtain ⟨a1, a2, a3, _, _, _⟩ := ownE_inv h1
  obtain ⟨p1, p2, p3, p4⟩ := parts_le a3
  simp only [insE] at hW ⊢
  simp only [evE]
  refine Sims.bnd (simEs l h2 i s e hW.left hn) ?_
  rintro ⟨xs, s1⟩ m _ ⟨rfl, hxl⟩ _ hn1
  simp only at hn1 hxl ⊢
  obtain ⟨hx, _⟩ := hW.right.head
  refine Sims.tick hx rfl rfl hn1 ?_
  intro _
  have hlen : ∀ x : Is, i + (insEs vs l ++ [x]).length = i + (insEs vs l).length + 1 := fun x => by simp; omega
  unfold sayE
  by_cases e1 : op = 1
  ·subst e1
   have hx0 : xs = [] := List.eq_nil_of_length_eq_zero (by have := p2 (.inl rfl); omega)
   subst hx0
   rw [if_pos rfl]
   refine ⟨rfl, rfl, ?_⟩
   rw [hlen]
   simp [exI, mdOf]
  rw [if_neg e1]
  by_cases e2 : op = 2
  ·subst e2
   have hx0 : xs = [] := List.eq_nil_of_length_eq_zero (by have := p2 (.inr rfl); omega)
   subst hx0
   rw [if_pos rfl]
   refine ⟨rfl, rfl, ?_⟩
   rw [hlen]
   simp [exI, mdOf]
  rw [if_neg e2]
  by_cases e3 : op = 3
  ·subst e3
   obtain ⟨y, rfl⟩ : ∃ y, xs = [y] := by
    have := p3 rfl
    match xs, hxl with
    | [y], _ => exact ⟨y, rfl⟩
    | [], hxl => simp at hxl; omega
    | _ :: _ :: _, hxl => simp at hxl; omega
   rw [if_pos rfl]
   have hy : [y].getD 0 0 = y := rfl
   rw [hy]
   by_cases hr : 0 ≤ y ∧ y < sizeV vs v
   ·rw [if_pos hr]
    refine ⟨rfl, ?_, ?_⟩
    ·simp [exI, mdOf, top_app, hr]
    ·rw [hlen]
     simp [exI, mdOf, top_app, hr]
   ·rw [if_neg hr]
    refine ⟨rfl, ?_, ?_, (by show (11 : Nat) ≠ 13; decide), (by show (11 : Nat) ≠ 0; decide), ?_⟩
    ·simp [exI, mdOf, top_app, hr]
    ·simp [exI, mdOf, top_app, hr]
    ·simp [exI, mdOf, top_app, hr]
  rw [if_neg e3]
  obtain ⟨z, y, rfl⟩ : ∃ z y, xs = [z, y] := by
   have := p4 (by omega)
   match xs, hxl with
   | [z, y], _ => exact ⟨z, y, rfl⟩
   | [], hxl => simp at hxl; omega
   | [_], hxl => simp at hxl; omega
   | _ :: _ :: _ :: _, hxl => simp at hxl; omega
  have hs2 : s ++ [z, y] = (s ++ [z]) ++ [y] := by simp
  have hex : ∀ A B, exI inp (op, A, B, n) (mdOf (i + (insEs vs l).length) (s ++ [z, y]) s1) (s1.out, false) = (mdOf (i + (insEs vs l).length + 1) (s ++ [ariI op z y]) { s1 with n := s1.n + 1 }, (s1.out, false)) := fun A B => by
   unfold exI
   simp only
   rw [if_neg e1, if_neg e2, if_neg e3, if_pos ⟨by omega, a2⟩]
   simp only [mdOf, hs2, top_app, drop_app]
  refine ⟨rfl, by rw [hex], ?_⟩
  rw [hlen, hex]
  simp
theorem simEs : ∀ (l : List ET) {d k k' : Nat}, chkEs vs.length l d k = .ok k' → ∀ (i : Nat) (s : List Int) (e : Es), Seg W i (insEs vs l) → e.n ≤ fuel →
  Sims W inp fuel (mdOf i s e) e (evEs vs fuel l e) (fun a => a.2) (fun a m => m = mdOf (i + (insEs vs l).length) (s ++ a.1) a.2 ∧ a.1.length = l.length)
 | [], _, _, _, _, i, s, e, _, hn => by
  simp only [evEs]
  exact Sims.ok rfl hn ⟨by simp [insEs], rfl⟩
 | t :: r, d, k, k', h, i, s, e, hW, hn => by
  obtain ⟨⟨k1, h1⟩, k2, h2⟩ := chkEs_inv h
  simp only [insEs] at hW ⊢
  simp only [evEs]
  refine Sims.bnd (simE t h1 i s e hW.left hn) ?_
  rintro ⟨x, s1⟩ m _ rfl _ hn1
  refine Sims.bnd (simEs r h2 _ (s ++ [x]) s1 hW.right hn1) ?_
  rintro ⟨xs, s2⟩ m _ ⟨rfl, hxl⟩ _ hn2
  refine Sims.ok rfl hn2 ⟨?_, by simp only [List.length_cons]; simp only at hxl; omega⟩
  simp [Nat.add_assoc]
end
mutual
theorem simS : ∀ (t : ST) {d k k' : Nat}, chkS vs.length t d k = .ok k' → ∀ (i : Nat) (e : Es), Seg W i (insS vs t i) → e.n ≤ fuel →
  Sims W inp fuel (mdOf i [] e) e (evS vs inp fuel t e) id (fun a m => m = mdOf (i + (insS vs t i).length) [] a)
 | .mk op v e f b o, d, k, k', h, i, s, hW, hn => by
  obtain ⟨hd, h1, h2, h3, ⟨k1, k2, h4⟩, k3, k4, h5⟩ := chkS_inv h
  obtain ⟨a1, a2, _⟩ := ownS_inv h1
  have sb := fun i e => simSs b h4 i e
  have so := fun i e => simSs o h5 i e
  simp only [evS]
  simp only [insS] at hW ⊢
  by_cases e5 : op = 5
  ·subst e5
   rw [if_pos rfl] at hW ⊢
   rw [if_pos rfl]
   obtain ⟨_, _, hce⟩ := h2 rfl
   have hEI : eI vs 5 e = insE vs e := rfl
   rw [hEI] at hW ⊢
   obtain ⟨X, hX⟩ : ∃ X, X = insSs vs b (i + (insE vs e).length + 1) := ⟨_, rfl⟩
   have hsb := sb (i + (insE vs e).length + 1)
   rw [← hX] at hW hsb ⊢
   have hwl : (whileI i (insE vs e) X).length = (insE vs e).length + 1 + X.length + 1 := by simp [whileI]; omega
   rw [hwl]
   unfold whileI at hW
   obtain ⟨hx1, hW2⟩ := hW.right.head
   obtain ⟨hx2, _⟩ := hW2.right.head
   have loop : ∀ (g : Nat) (s : Es), s.n ≤ fuel → fuel < g + s.n → Sims W inp fuel (mdOf i [] s) s (loopX fuel (evE vs fuel e) (evSs vs inp fuel b) g s) id (fun a m => m = mdOf (i + ((insE vs e).length + 1 + X.length + 1)) [] a) := by
    intro g
    induction g with
    | zero => intro s hs hg; omega
    | succ g ih =>
     intro s hs hg
     simp only [loopX]
     refine Sims.bnd (simE e hce i [] s hW.left hs) ?_
     rintro ⟨x, s1⟩ m _ rfl hn01 hn1
     simp only at hn01 hn1 ⊢
     refine Sims.bnd (Sims.tick1 hx1 rfl rfl hn1 rfl) ?_
     rintro s2 m _ ⟨rfl, rfl⟩ hn12 hn2
     simp only [id] at hn12 hn2 ⊢
     have hex : (exI inp (13, ((i + (insE vs e).length + 1 + X.length + 1 : Nat) : Int), 0, 0) (mdOf (i + (insE vs e).length) ([] ++ [x]) s1) (s1.out, false)).1 = mdOf (if x = 0 then i + (insE vs e).length + 1 + X.length + 1 else i + (insE vs e).length + 1) [] { s1 with n := s1.n + 1 } := by
      simp [exI, mdOf, topS]
      split <;> omega
     rw [hex]
     by_cases hx0 : x = 0
     ·rw [if_pos hx0, if_pos hx0]
      exact Sims.ok rfl hn2 (by congr 1; omega)
     ·rw [if_neg hx0, if_neg hx0]
      refine Sims.bnd (hsb { s1 with n := s1.n + 1 } hW2.left hn2) ?_
      rintro s3 m _ rfl hn23 hn3
      simp only [id] at hn23 hn3 ⊢
      refine Sims.bnd (Sims.tick1 hx2 rfl rfl hn3 rfl) ?_
      rintro s4 m _ ⟨rfl, rfl⟩ hn34 hn4
      simp only [id] at hn34 hn4 ⊢
      have hex2 : (exI inp (14, ((i : Nat) : Int), 0, 0) (mdOf (i + (insE vs e).length + 1 + X.length) [] s3) (s3.out, false)).1 = mdOf i [] { s3 with n := s3.n + 1 } := by
       simp [exI, mdOf]
      rw [hex2]
      exact ih _ hn4 (by show fuel < g + (s3.n + 1); omega)
   exact loop (fuel + 1) s hn (by omega)
  rw [if_neg e5] at hW ⊢
  rw [if_neg e5]
  by_cases e6 : op = 6
  ·subst e6
   rw [if_pos rfl] at hW ⊢
   rw [if_pos rfl]
   obtain ⟨_, _, hce⟩ := h2 rfl
   have hEI : eI vs 6 e = insE vs e := rfl
   rw [hEI] at hW ⊢
   obtain ⟨X, hX⟩ : ∃ X, X = insSs vs b (i + (insE vs e).length + 1) := ⟨_, rfl⟩
   have hsb := sb (i + (insE vs e).length + 1)
   rw [← hX] at hW hsb ⊢
   obtain ⟨Y, hY⟩ : ∃ Y, Y = insSs vs o (i + (insE vs e).length + 1 + X.length + 1) := ⟨_, rfl⟩
   have hso := so (i + (insE vs e).length + 1 + X.length + 1)
   rw [← hY] at hW hso ⊢
   have hwl : (ifI i (insE vs e) X Y).length = (insE vs e).length + 1 + X.length + 1 + Y.length := by simp [ifI]; omega
   rw [hwl]
   unfold ifI at hW
   obtain ⟨hx1, hW2⟩ := hW.right.head
   obtain ⟨hx2, hW3⟩ := hW2.right.head
   refine Sims.bnd (simE e hce i [] s hW.left hn) ?_
   rintro ⟨x, s1⟩ m _ rfl hn01 hn1
   simp only at hn01 hn1 ⊢
   refine Sims.bnd (Sims.tick1 hx1 rfl rfl hn1 rfl) ?_
   rintro s2 m _ ⟨rfl, rfl⟩ hn12 hn2
   simp only [id] at hn12 hn2 ⊢
   have hex : (exI inp (13, ((i + (insE vs e).length + 1 + X.length + 1 : Nat) : Int), 0, 0) (mdOf (i + (insE vs e).length) ([] ++ [x]) s1) (s1.out, false)).1 = mdOf (if x = 0 then i + (insE vs e).length + 1 + X.length + 1 else i + (insE vs e).length + 1) [] { s1 with n := s1.n + 1 } := by
    simp [exI, mdOf, topS]
    split <;> omega
   rw [hex]
   by_cases hx0 : x = 0
   ·rw [if_pos hx0, if_pos hx0]
    refine (hso { s1 with n := s1.n + 1 } hW3 hn2).mono ?_
    rintro a m rfl
    congr 1
    omega
   ·rw [if_neg hx0, if_neg hx0]
    refine Sims.bnd (hsb { s1 with n := s1.n + 1 } hW2.left hn2) ?_
    rintro s3 m _ rfl hn23 hn3
    simp only [id] at hn23 hn3 ⊢
    refine (Sims.tick1 hx2 rfl rfl hn3 rfl).mono ?_
    rintro s4 m ⟨rfl, rfl⟩
    simp [exI, mdOf]
    omega
  rw [if_neg e6] at hW ⊢
  rw [if_neg e6]
  have hsegE := hW.left
  have hsegF := hW.right.left
  obtain ⟨hx, _⟩ := hW.right.right.head
  have hlen : i + (eI vs op e ++ (fI vs op f ++ [lastI vs op v])).length = i + (eI vs op e).length + (fI vs op f).length + 1 := by simp; omega
  rw [hlen]
  have sE : Sims W inp fuel (mdOf i [] s) s (if needE op then evE vs fuel e s else .ok (0, s)) (fun a => a.2) (fun a m => m = mdOf (i + (eI vs op e).length) (if needE op then [a.1] else []) a.2) := by
   unfold eI at hsegE ⊢
   cases hne : needE op with
   | false => exact Sims.ok rfl hn rfl
   | true =>
    obtain ⟨_, _, hc⟩ := h2 hne
    rw [hne] at hsegE
    exact simE e hc i [] s hsegE hn
  refine Sims.bnd sE ?_
  rintro ⟨x, s1⟩ m _ rfl _ hn1
  simp only at hn1 ⊢
  have sF : Sims W inp fuel (mdOf (i + (eI vs op e).length) (if needE op then [x] else []) s1) s1 (if needF op then evE vs fuel f s1 else .ok (0, s1)) (fun a => a.2) (fun a m => m = mdOf (i + (eI vs op e).length + (fI vs op f).length) ((if needE op then [x] else []) ++ (if needF op then [a.1] else [])) a.2) := by
   unfold fI at hsegF ⊢
   cases hnf : needF op with
   | false => exact Sims.ok rfl hn1 (by simp)
   | true =>
    obtain ⟨_, _, hc⟩ := h3 hnf
    rw [hnf] at hsegF
    exact simE f hc _ _ s1 hsegF hn1
  refine Sims.bnd sF ?_
  rintro ⟨y, s2⟩ m _ rfl _ hn2
  simp only at hn2 ⊢
  refine Sims.tick hx rfl rfl hn2 ?_
  intro _
  have hop : op = 1 ∨ op = 2 ∨ op = 3 ∨ op = 4 ∨ op = 7 := by omega
  rcases hop with rfl | rfl | rfl | rfl | rfl
  ·exact ⟨rfl, rfl, by simp [exI, lastI, mdOf, needE, needF, topS]⟩
  ·by_cases hr : 0 ≤ x ∧ x < sizeV vs v
   ·have e9 : sayS vs inp 2 v x y { s2 with n := s2.n + 1 } = .ok { s2 with n := s2.n + 1, cells := s2.cells.set (cellOf vs v + x).toNat y } := by simp [sayS, hr]
    rw [e9]
    exact ⟨rfl, by simp [exI, lastI, mdOf, needE, needF, topS, hr], by simp [exI, lastI, mdOf, needE, needF, topS, hr]⟩
   ·have e9 : sayS vs inp 2 v x y { s2 with n := s2.n + 1 } = .error (11, { s2 with n := s2.n + 1 }) := by simp [sayS, hr]
    rw [e9]
    exact ⟨rfl, by simp [exI, lastI, mdOf, needE, needF, topS, hr], by simp [exI, lastI, mdOf, needE, needF, topS, hr], (by show (11 : Nat) ≠ 13; decide), (by show (11 : Nat) ≠ 0; decide), by simp [exI, lastI, mdOf, needE, needF, topS, hr]⟩
  ·refine ⟨rfl, ?_, ?_⟩
   ·simp [exI, lastI, mdOf, needE, needF, topS, putP]
   ·simp [exI, lastI, mdOf, needE, needF]
  ·by_cases hr : s2.read < inp.length
   ·have e9 : sayS vs inp 4 v x y { s2 with n := s2.n + 1 } = .ok { s2 with n := s2.n + 1, cells := s2.cells.set (cellOf vs v).toNat (inp.getD s2.read 0), read := s2.read + 1 } := by simp [sayS, hr]
    rw [e9]
    exact ⟨rfl, by simp [exI, lastI, mdOf, needE, needF, hr], by simp [exI, lastI, mdOf, needE, needF, hr]⟩
   ·have e9 : sayS vs inp 4 v x y { s2 with n := s2.n + 1 } = .error (12, { s2 with n := s2.n + 1 }) := by simp [sayS, hr]
    rw [e9]
    exact ⟨rfl, by simp [exI, lastI, mdOf, needE, needF, hr], by simp [exI, lastI, mdOf, needE, needF, hr], (by show (12 : Nat) ≠ 13; decide), (by show (12 : Nat) ≠ 0; decide), by simp [exI, lastI, mdOf, needE, needF, hr]⟩
  ·exact ⟨rfl, rfl, by simp [exI, lastI, mdOf, needE, needF]⟩
theorem simSs : ∀ (l : List ST) {d k k' : Nat}, chkSs vs.length l d k = .ok k' → ∀ (i : Nat) (e : Es), Seg W i (insSs vs l i) → e.n ≤ fuel →
  Sims W inp fuel (mdOf i [] e) e (evSs vs inp fuel l e) id (fun a m => m = mdOf (i + (insSs vs l i).length) [] a)
 | [], _, _, _, _, i, e, _, hn => by
  simp only [evSs]
  exact Sims.ok rfl hn (by simp [insSs])
 | t :: r, d, k, k', h, i, e, hW, hn => by
  obtain ⟨⟨k1, h1⟩, k2, h2⟩ := chkSs_inv h
  simp only [insSs] at hW ⊢
  simp only [evSs]
  refine Sims.bnd (simS t h1 i e hW.left hn) ?_
  rintro s1 m _ rfl _ hn1
  refine (simSs r h2 _ s1 hW.right hn1).mono ?_
  rintro a m rfl
  simp [Nat.add_assoc]
end
end
end
def resX : Ex Es → Nat × List Int × List Int × Nat
 | .ok a => (0, a.out, a.cells, a.n)
 | .error e => (e.1, e.2.out, e.2.cells, e.2.n)
theorem simP {vs : List VarT} {body : List ST} (h : progFault vs body = 0) (inp : List Int) (fuel c : Nat) :
  Sims (insP vs body) inp fuel (mind0 c) (es0 c) (evP vs inp fuel body (es0 c)) id (fun a m => m.state = 1 ∧ m.cells = a.cells) := by
 obtain ⟨_, _, k, hk⟩ := progFault_ok h
 have hW : Seg (insP vs body) 0 (insSs vs body 0 ++ [haltI]) := fun j x hx => by rw [Nat.zero_add]; exact hx
 unfold evP
 refine Sims.bnd (simSs body hk 0 (es0 c) hW.left (Nat.zero_le _)) ?_
 rintro s1 m _ rfl _ hn1
 obtain ⟨hx, _⟩ := hW.right.head
 refine (Sims.tick1 hx rfl rfl hn1 rfl).mono ?_
 rintro s2 m ⟨rfl, rfl⟩
 exact ⟨rfl, rfl⟩
theorem runP {vs : List VarT} {body : List ST} (h : progFault vs body = 0) (inp : List Int) (fuel c : Nat) :
  ∃ n m out, n ≤ fuel ∧ goB (insP vs body) inp n (mind0 c, ([], false)) (m, (out, false)) ∧ (n = fuel ∨ m.state ≠ 0) ∧
   resX (evP vs inp fuel body (es0 c)) = (if m.state = 0 then 13 else if m.state = 1 then 0 else m.state - 2, out, m.cells, n) := by
 have hs := simP h inp fuel c
 cases hX : evP vs inp fuel body (es0 c) with
 | ok a =>
  rw [hX] at hs
  obtain ⟨_, h2, m, h3, h4, h5⟩ := hs
  refine ⟨a.n, m, a.out, h2, h3, .inr (by omega), ?_⟩
  simp [resX, h4, h5]
 | error e =>
  rw [hX] at hs
  obtain ⟨_, h2, m, h3, h4, h5⟩ := hs
  refine ⟨e.2.n, m, e.2.out, h2, h3, ?_, ?_⟩
  ·rcases h5 with ⟨_, h6, _⟩ | ⟨_, _, h6⟩
   ·exact .inl h6
   ·exact .inr (by omega)
  ·rcases h5 with ⟨h5, _, h6⟩ | ⟨h5, h7, h6⟩
   ·simp [resX, h4, h5, h6]
   ·have e1 : ¬ m.state = 0 := by omega
    have e2 : ¬ m.state = 1 := by omega
    rw [if_neg e1, if_neg e2, h6, h4]
    rfl
section
theorem exI_read (inp : List Int) (x : Is) (m : Md) (p : Pr) : (exI inp x m p).1.read ≤ m.read + 1 := by
 simp only [exI, apply_ite Prod.fst, apply_ite Md.read, ite_self]
 repeat' split
 all_goals omega
theorem exI_state (inp : List Int) (x : Is) (m : Md) (p : Pr) (h : m.state ≤ 14) : (exI inp x m p).1.state ≤ 14 := by
 simp only [exI, apply_ite Prod.fst, apply_ite Md.state]
 repeat' split
 all_goals omega
section
variable {W : List Is} {inp : List Int} {c : Nat}
theorem pu_bounds : ∀ (k : Nat), (pu W inp c k).1.read ≤ k ∧ (pu W inp c k).2.1.length ≤ k ∧ (pu W inp c k).1.state ≤ 14
 | 0 => ⟨Nat.le_refl _, Nat.le_refl _, Nat.zero_le _⟩
 | k + 1 => by
  obtain ⟨h1, h2, h3⟩ := pu_bounds k
  have ho := (pu_out (W := W) (inp := inp) (c := c) k).1
  rw [pu_succ]
  unfold stB
  split
  ·have e1 := exI_read inp (W.getD (pu W inp c k).1.next (0, 0, 0, 0)) (pu W inp c k).1 (pu W inp c k).2
   refine ⟨by omega, ?_, exI_state _ _ _ _ h3⟩
   rw [exI_snd]
   split
   ·unfold putP
    rw [if_pos ho]
    simp only [List.length_append, List.length_cons, List.length_nil]
    omega
   ·omega
  ·exact ⟨by simp only; omega, by simp only; omega, h3⟩
theorem pu_fit {Q : List Is} (hQ : Sim c 0 Q 0) (hJ : Jmps c 0 Q) : ∀ (k : Nat), Fit c Q (pu (Q ++ [haltI]) inp c k).1 (pu (Q ++ [haltI]) inp c k).2
 | 0 => fit0 _
 | k + 1 => by
  rw [pu_succ]
  exact (pu_fit hQ hJ k).step hQ hJ
end
end
section
structure Lz where
 lf : Lf
 W : List Int
 KW : List Int
 gen : Int
section
variable (nw : List Is → List Int → Md → List Int → List Int) (L : List Is) (inp : List Int)
def stepZ (q : Bool) (z : Lz) : Lz :=
 if q && comB L z.lf.m then ⟨stepL L inp q z.lf, nw L inp z.lf.m z.W, nw L inp z.lf.m z.W, z.gen + 1⟩ else ⟨stepL L inp q z.lf, nw L inp z.lf.m z.W, z.KW, z.gen⟩
def wakeZ (z : Lz) : Lz := ⟨wakeL z.lf, z.KW, z.KW, z.gen⟩
def runZ : Nat → Lz → Lz × Nat
 | 0, z => (z, 0)
 | n + 1, z => if z.lf.m.state = 0 then ((runZ n (stepZ nw L inp true z)).1, (runZ n (stepZ nw L inp true z)).2 + 1) else (z, 0)
def tearZ (keep : Bool) : Nat → Lz → Lz × Nat
 | 0, z => (z, 0)
 | n + 1, z => if comB L z.lf.m then (wakeZ (stepZ nw L inp keep z), 1) else if z.lf.m.state = 0 then ((tearZ keep n (stepZ nw L inp true z)).1, (tearZ keep n (stepZ nw L inp true z)).2 + 1) else (z, 0)
def doZ (kind : Int) (n : Nat) (keep : Bool) (z : Lz) : Lz × Nat := if kind = 2 then (wakeZ z, 0) else if kind = 3 then tearZ nw L inp keep n z else runZ nw L inp n z
variable {nw L inp}
theorem stepZ_lf (q : Bool) (z : Lz) : (stepZ nw L inp q z).lf = stepL L inp q z.lf := by
 unfold stepZ
 split <;> rfl
theorem runZ_lf : ∀ (n : Nat) (z : Lz), (runZ nw L inp n z).1.lf = (runL L inp n z.lf).1 ∧ (runZ nw L inp n z).2 = (runL L inp n z.lf).2
 | 0, z => ⟨rfl, rfl⟩
 | n + 1, z => by
  obtain ⟨h1, h2⟩ := runZ_lf n (stepZ nw L inp true z)
  rw [stepZ_lf] at h1 h2
  simp only [runZ, runL]
  split
  ·exact ⟨h1, by rw [h2]⟩
  ·exact ⟨rfl, rfl⟩
theorem tearZ_lf (keep : Bool) : ∀ (n : Nat) (z : Lz), (tearZ nw L inp keep n z).1.lf = (tearL L inp keep n z.lf).1 ∧ (tearZ nw L inp keep n z).2 = (tearL L inp keep n z.lf).2
 | 0, z => ⟨rfl, rfl⟩
 | n + 1, z => by
  obtain ⟨h1, h2⟩ := tearZ_lf keep n (stepZ nw L inp true z)
  rw [stepZ_lf] at h1 h2
  simp only [tearZ, tearL]
  split
  ·exact ⟨by show wakeL (stepZ nw L inp keep z).lf = _; rw [stepZ_lf], rfl⟩
  ·split
   ·exact ⟨h1, by rw [h2]⟩
   ·exact ⟨rfl, rfl⟩
theorem doZ_lf (kind : Int) (n : Nat) (keep : Bool) (z : Lz) : (doZ nw L inp kind n keep z).1.lf = (doL L inp kind n keep z.lf).1 ∧ (doZ nw L inp kind n keep z).2 = (doL L inp kind n keep z.lf).2 := by
 unfold doZ doL
 split
 ·exact ⟨rfl, rfl⟩
 split
 ·exact tearZ_lf keep n z
 ·exact runZ_lf n z
theorem stepZ_gen (q : Bool) (z : Lz) : z.gen ≤ (stepZ nw L inp q z).gen ∧ (stepZ nw L inp q z).gen ≤ z.gen + 1 := by
 unfold stepZ
 split
 ·exact ⟨by show z.gen ≤ z.gen + 1; omega, Int.le_refl _⟩
 ·exact ⟨Int.le_refl _, by show z.gen ≤ z.gen + 1; omega⟩
theorem runZ_gen : ∀ (n : Nat) (z : Lz), z.gen ≤ (runZ nw L inp n z).1.gen ∧ (runZ nw L inp n z).1.gen ≤ z.gen + ((runZ nw L inp n z).2 : Nat)
 | 0, z => ⟨Int.le_refl _, by show z.gen ≤ z.gen + ((0 : Nat) : Int); omega⟩
 | n + 1, z => by
  obtain ⟨h1, h2⟩ := runZ_gen n (stepZ nw L inp true z)
  obtain ⟨h3, h4⟩ := stepZ_gen (nw := nw) (L := L) (inp := inp) true z
  simp only [runZ]
  split
  ·simp only
   omega
  ·exact ⟨Int.le_refl _, by show z.gen ≤ z.gen + ((0 : Nat) : Int); omega⟩
theorem tearZ_gen (keep : Bool) : ∀ (n : Nat) (z : Lz), z.gen ≤ (tearZ nw L inp keep n z).1.gen ∧ (tearZ nw L inp keep n z).1.gen ≤ z.gen + ((tearZ nw L inp keep n z).2 : Nat)
 | 0, z => ⟨Int.le_refl _, by show z.gen ≤ z.gen + ((0 : Nat) : Int); omega⟩
 | n + 1, z => by
  obtain ⟨h1, h2⟩ := tearZ_gen keep n (stepZ nw L inp true z)
  obtain ⟨h3, h4⟩ := stepZ_gen (nw := nw) (L := L) (inp := inp) true z
  obtain ⟨h5, h6⟩ := stepZ_gen (nw := nw) (L := L) (inp := inp) keep z
  simp only [tearZ]
  split
  ·exact ⟨h5, h6⟩
  ·split
   ·simp only
    omega
   ·exact ⟨Int.le_refl _, by show z.gen ≤ z.gen + ((0 : Nat) : Int); omega⟩
theorem doZ_gen (kind : Int) (n : Nat) (keep : Bool) (z : Lz) : z.gen ≤ (doZ nw L inp kind n keep z).1.gen ∧ (doZ nw L inp kind n keep z).1.gen ≤ z.gen + ((doZ nw L inp kind n keep z).2 : Nat) := by
 unfold doZ
 split
 ·exact ⟨Int.le_refl _, by show z.gen ≤ z.gen + ((0 : Nat) : Int); omega⟩
 split
 ·exact tearZ_gen keep n z
 ·exact runZ_gen n z
end
theorem runL_le (W : List Is) (inp : List Int) : ∀ (n : Nat) (x : Lf), (runL W inp n x).2 ≤ n
 | 0, x => Nat.le_refl _
 | n + 1, x => by
  simp only [runL]
  split
  ·have := runL_le W inp n (stepL W inp true x)
   simp only
   omega
  ·exact Nat.zero_le _
theorem tearL_le (W : List Is) (inp : List Int) (keep : Bool) : ∀ (n : Nat) (x : Lf), (tearL W inp keep n x).2 ≤ n
 | 0, x => Nat.le_refl _
 | n + 1, x => by
  simp only [tearL]
  split
  ·simp only; omega
  split
  ·have := tearL_le W inp keep n (stepL W inp true x)
   simp only
   omega
  ·exact Nat.zero_le _
theorem doL_le (W : List Is) (inp : List Int) (kind : Int) (n : Nat) (keep : Bool) (x : Lf) : (doL W inp kind n keep x).2 ≤ n := by
 unfold doL
 split
 ·exact Nat.zero_le _
 split
 ·exact tearL_le W inp keep n x
 ·exact runL_le W inp n x
abbrev Sp := Int × Int × Int × Nat
def spFault (s : Sp) : Int := if s.1 < 1 ∨ 3 < s.1 then 2 else if s.1 ≠ 2 ∧ (s.2.1 < 0 ∨ 3000 < s.2.1) ∨ s.1 = 3 ∧ s.2.2.1 < 0 then 1 else 0
def spKeep (s : Sp) : Bool := s.2.2.1 == 0 || (s.2.2.1 == 1 && s.2.2.2 % 2 == 1)
def doSp (W : List Is) (inp : List Int) (s : Sp) (x : Lf) : Lf × Nat := doL W inp s.1 s.2.1.toNat (spKeep s) x
def lf0 (c : Nat) : Lf := ⟨mind0 c, mind0 c, ([], false)⟩
end
section
section
variable {H : Type} {enc : TypeId × Value → H} {P : Program} {w : World} {base : Nat} {spare : Nat → Bool} {held : Bool} {fuel : Nat} {t : TypeId} {cs : List Value} {x : DataW H × List MemPlace}
theorem choose_list {α : Type} {p : Nat → α → Prop} : ∀ n, (∀ i, i < n → ∃ a, p i a) → ∃ l : List α, l.length = n ∧ ∀ i a, l[i]? = some a → p i a
 | 0, _ => ⟨[], rfl, fun i a h => by simp at h⟩
 | n + 1, h => by
  obtain ⟨l, hl, hp⟩ := choose_list n fun i hi => h i (Nat.lt_succ_of_lt hi)
  obtain ⟨a, ha⟩ := h n (Nat.lt_succ_self n)
  refine ⟨l ++ [a], by simp [hl], fun i b hb => ?_⟩
  rcases Nat.lt_or_ge i l.length with hlt | hge
  ·rw [List.getElem?_append_left hlt] at hb
   exact hp i b hb
  ·rw [List.getElem?_append_right hge] at hb
   have : i - l.length = 0 := by
    rcases Nat.eq_zero_or_pos (i - l.length) with h0 | h0
    ·exact h0
    ·rw [List.getElem?_eq_none (by simp; omega)] at hb; cases hb
   rw [this] at hb
   simp at hb
   subst hb
   have hi : i = n := by omega
   rw [hi]; exact ha
end
end
section
def vcell (x : VarT) : List Value := [.string x.1, .int .i64 x.2]
def VarsV (F : Nat → Prop) (w : World) (v : Value) (l : List VarT) : Prop :=
 ∃ a cap, v = .slice a l.length cap ∧ l.length ≤ cap ∧ RowAt F w 2 a l.length (fun i => vcell (l.getD i (ByteArray.empty, 0)))
section
variable {F F' : Nat → Prop} {w w' : World} {v : Value} {l : List VarT}
theorem VarsV.keep {fp : List Nat} (h : VarsV F w v l) (hk : Keep fp w w') (hs : Stays F w fp) : VarsV F w' v l := by
 obtain ⟨a, cap, hv, hc, hr⟩ := h
 exact ⟨a, cap, hv, hc, hr.keep hk hs⟩
theorem VarsV.mono (h : VarsV F w v l) (hF : ∀ b, F b → F' b) : VarsV F' w v l := by
 obtain ⟨a, cap, hv, hc, hr⟩ := h
 exact ⟨a, cap, hv, hc, hr.mono hF⟩
theorem VarsV.form (h : VarsV F w v l) : ∃ a cap, v = .slice a l.length cap := by
 obtain ⟨a, cap, hv, _⟩ := h
 exact ⟨a, cap, hv⟩
theorem VarsV.room {a : Option Addr} {cap : Nat} (h : VarsV F w (.slice a l.length cap) l) : l.length ≤ cap := by
 obtain ⟨a', cap', hv, hc, _⟩ := h
 cases hv
 exact hc
theorem VarsV.at (h : VarsV F w v l) {i : Nat} {x : VarT} (hx : l[i]? = some x) : ∃ b q cap, v = .slice (some ⟨b, q, none⟩) l.length cap ∧ F b ∧ w.rangeAt b (q + i * 2) (vcell x) := by
 obtain ⟨a, cap, hv, _, hr⟩ := h
 obtain ⟨hlt, e⟩ := List.getElem?_eq_some_iff.1 hx
 obtain ⟨b, q, ha, hF, hra⟩ := hr (by omega)
 have this : w.rangeAt b (q + i * 2) (vcell (l.getD i (ByteArray.empty, 0))) := hra i hlt
 rw [List.getD_eq_getElem?_getD, hx] at this
 exact ⟨b, q, cap, by rw [hv, ha], hF, this⟩
end
def ProgV (F : Nat → Prop) (w : World) (v : Value) (vs : List VarT) (b : List ST) : Prop := ∃ vv bv, v = .agg #[vv, bv] ∧ VarsV F w vv vs ∧ StmtsV F w bv b
theorem ProgV.keep {F : Nat → Prop} {w w' : World} {v : Value} {vs : List VarT} {b : List ST} {fp : List Nat} (h : ProgV F w v vs b) (hk : Keep fp w w') (hs : Stays F w fp) : ProgV F w' v vs b := by
 obtain ⟨vv, bv, hv, h1, h2⟩ := h
 exact ⟨vv, bv, hv, h1.keep hk hs, h2.keep hk hs⟩
end
section
section
variable {P : Program} {f n : Nat} {k : List Item} {K Kp : Value → World → Prop} {σ : Env} {w : World}
theorem rn_ret5 {fn : Func} {t0 t1 t2 t3 t4 : Nat} {v0 v1 v2 v3 v4 : Value} (hf : P.funcs[f]? = some fn) (hr : fn.results = #[.tmp t0, .tmp t1, .tmp t2, .tmp t3, .tmp t4]) (h0 : look σ t0 = some v0) (h1 : look σ t1 = some v1) (h2 : look σ t2 = some v2)
  (h3 : look σ t3 = some v3) (h4 : look σ t4 = some v4) (hR : K (.tuple #[v0, v1, v2, v3, v4]) w) : Rn P f n (.code .ret :: k) (endR K Kp) σ w := fun a ha hd =>
 runs_ret hf hd (by simp only [results, hr]; simp [ha.has t0 _ h0, ha.has t1 _ h1, ha.has t2 _ h2, ha.has t3 _ h3, ha.has t4 _ h4]) hR
end
section
variable {w : World} {B e k : Nat} {v : Value}
theorem flatten_at {k : Nat} {ccs : List (List Value)} (hk : ∀ c ∈ ccs, c.length = k) {i : Nat} {c : List Value} (h : ccs[i]? = some c) : (ccs.flatten.drop (i * k)).take k = c := by
 have := flat_at (f := fun x : List Value => x) (k := k) hk h
 simpa [List.flatMap_id'] using this
theorem own_rowAt {ccs : List (List Value)} (h : Own w B e k v ccs.length ccs.flatten) (hk : ∀ c ∈ ccs, c.length = k) :
  ∃ a cap, v = .slice a ccs.length cap ∧ RowAt (fun b => v.ownBlock = some b) w k a ccs.length (fun i => ccs.getD i []) := by
 obtain ⟨a, cap, hv⟩ := h.form
 refine ⟨a, cap, hv, fun h0 => ?_⟩
 obtain ⟨g, cap', hv', hr⟩ := h.range (q := 0) (cs := ccs.flatten) (by rw [List.drop_zero, List.take_length]) h0
 rw [hv] at hv'
 injection hv' with e1 e2 e3
 subst e1
 refine ⟨g, 0, rfl, by rw [hv]; rfl, fun i hi j u hu => ?_⟩
 replace hu : (ccs.getD i [])[j]? = some u := hu
 rw [List.getD_eq_getElem?_getD, List.getElem?_eq_getElem hi] at hu
 have hc := hk _ (List.getElem_mem hi)
 have hj : j < k := by
  have := (List.getElem?_eq_some_iff.1 hu).1
  simp only [Option.getD_some] at this
  omega
 have hat := flatten_at hk (List.getElem?_eq_getElem hi)
 simp only [Option.getD_some] at hu
 rw [← hat, List.getElem?_take, if_pos hj, List.getElem?_drop] at hu
 have := hr (i * k + j) u hu
 rwa [← Nat.add_assoc] at this
theorem exprs_of_own {F : Nat → Prop} {ccs : List (List Value)} {l : List ET} (h : Own w B e 4 v ccs.length ccs.flatten) (hl : ccs.length = l.length) (hc : ∀ i (hi : i < l.length), ExprV F w (ccs.getD i []) (l[i]'hi)) : ExprsV (fun b => v.ownBlock = some b ∨ F b) w v l := by
 have hk : ∀ c ∈ ccs, c.length = 4 := fun c hm => by
  obtain ⟨i, hi, rfl⟩ := List.mem_iff_getElem.1 hm
  have := (hc i (by omega)).length
  rwa [List.getD_eq_getElem?_getD, List.getElem?_eq_getElem hi] at this
 obtain ⟨a, cap, hv, hr⟩ := own_rowAt h hk
 rw [hl] at hv hr
 exact ⟨a, cap, _, hv, hr.mono fun b hb => .inl hb, fun i hi => (hc i hi).mono fun b hb => .inr hb⟩
theorem stmts_of_own {F : Nat → Prop} {ccs : List (List Value)} {l : List ST} (h : Own w B e 12 v ccs.length ccs.flatten) (hl : ccs.length = l.length) (hc : ∀ i (hi : i < l.length), StmtV F w (ccs.getD i []) (l[i]'hi)) : StmtsV (fun b => v.ownBlock = some b ∨ F b) w v l := by
 have hk : ∀ c ∈ ccs, c.length = 12 := fun c hm => by
  obtain ⟨i, hi, rfl⟩ := List.mem_iff_getElem.1 hm
  have := (hc i (by omega)).length
  rwa [List.getD_eq_getElem?_getD, List.getElem?_eq_getElem hi] at this
 obtain ⟨a, cap, hv, hr⟩ := own_rowAt h hk
 rw [hl] at hv hr
 exact ⟨a, cap, _, hv, hr.mono fun b hb => .inl hb, fun i hi => (hc i hi).mono fun b hb => .inr hb⟩
end
end
theorem In.stays {F : Nat → Prop} {w : World} (h : In F w) : Stays F w [] := fun k hk => ⟨h k hk, by simp⟩
theorem szE_pos (t : ET) : 1 ≤ szE t := by cases t; simp only [szE]; omega
theorem szS_pos (t : ST) : 1 ≤ szS t := by cases t; simp only [szS]; omega
theorem szEs_len : ∀ (l : List ET), l.length ≤ szEs l
 | [] => by simp [szEs]
 | t :: r => by have := szEs_len r; have := szE_pos t; simp only [List.length_cons, szEs]; omega
theorem szSs_len : ∀ (l : List ST), l.length ≤ szSs l
 | [] => by simp [szSs]
 | t :: r => by have := szSs_len r; have := szS_pos t; simp only [List.length_cons, szSs]; omega
theorem szEs_append : ∀ (a b : List ET), szEs (a ++ b) = szEs a + szEs b
 | [], b => by simp [szEs]
 | t :: r, b => by simp only [List.cons_append, szEs, szEs_append r b]; omega
theorem szSs_append : ∀ (a b : List ST), szSs (a ++ b) = szSs a + szSs b
 | [], b => by simp [szSs]
 | t :: r, b => by simp only [List.cons_append, szSs, szSs_append r b]; omega
theorem szEs_succ {l : List ET} {i : Nat} {t : ET} (h : l[i]? = some t) : szEs (l.take (i + 1)) = szEs (l.take i) + szE t := by
 obtain ⟨hlt, e⟩ := List.getElem?_eq_some_iff.1 h
 rw [List.take_succ_eq_append_getElem hlt, szEs_append, e]
 simp [szEs]
theorem szSs_succ {l : List ST} {i : Nat} {t : ST} (h : l[i]? = some t) : szSs (l.take (i + 1)) = szSs (l.take i) + szS t := by
 obtain ⟨hlt, e⟩ := List.getElem?_eq_some_iff.1 h
 rw [List.take_succ_eq_append_getElem hlt, szSs_append, e]
 simp [szSs]
theorem szEs_take (l : List ET) (i : Nat) : szEs (l.take i) ≤ szEs l := by
 have e : szEs l = szEs (l.take i) + szEs (l.drop i) := by rw [← szEs_append, List.take_append_drop]
 omega
theorem szSs_take (l : List ST) (i : Nat) : szSs (l.take i) ≤ szSs l := by
 have e : szSs l = szSs (l.take i) + szSs (l.drop i) := by rw [← szSs_append, List.take_append_drop]
 omega
theorem szEs_at {l : List ET} {i : Nat} {t : ET} (h : l[i]? = some t) : szE t ≤ szEs l := by
 have := szEs_succ h
 have := szEs_take l (i + 1)
 omega
theorem szSs_at {l : List ST} {i : Nat} {t : ST} (h : l[i]? = some t) : szS t ≤ szSs l := by
 have := szSs_succ h
 have := szSs_take l (i + 1)
 omega
section
open Go.Proofs
def iC (x : Is) : List Value := [.int .i64 x.1, .int .i64 x.2.1, .int .i64 x.2.2.1, .int .i64 x.2.2.2]
theorem size_in : sizeOk Tryz.prog 3 1 = true := by kernel_rfl
theorem iC_one (x : Is) : ∀ u ∈ iC x, u.oneCell' = true := by
 intro u hu
 simp only [iC, List.mem_cons, List.not_mem_nil, or_false] at hu
 rcases hu with rfl | rfl | rfl | rfl <;> rfl
theorem one_in (a : Int) : ∀ u ∈ [Value.int .i64 a], u.oneCell' = true := by
 intro u hu
 simp only [List.mem_cons, List.not_mem_nil, or_false] at hu
 subst hu
 rfl
theorem iC_length (x : Is) : (iC x).length = 4 := rfl
def isC (l : List Is) : List Value := l.flatMap iC
theorem isC_length (l : List Is) : (isC l).length = l.length * 4 := flat_length fun p _ => iC_length p
theorem isC_one (l : List Is) : ∀ u ∈ isC l, u.oneCell' = true := by
 intro u hu
 simp only [isC, List.mem_flatMap, iC] at hu
 obtain ⟨x, _, hu⟩ := hu
 simp only [List.mem_cons, List.not_mem_nil, or_false] at hu
 rcases hu with rfl | rfl | rfl | rfl <;> rfl
theorem isC_app (a b : List Is) : isC (a ++ b) = isC a ++ isC b := by simp [isC]
def InsV (F : Nat → Prop) (w : World) (v : Value) (l : List Is) : Prop := ∃ a cap, v = .slice a l.length cap ∧ (0 < l.length → ∃ b q, a = some ⟨b, q, none⟩ ∧ F b ∧ w.rangeAt b q (isC l))
section
variable {F F' : Nat → Prop} {w w' : World} {v : Value} {l : List Is}
theorem InsV.form (h : InsV F w v l) : ∃ a cap, v = .slice a l.length cap := let ⟨a, cap, h, _⟩ := h; ⟨a, cap, h⟩
theorem InsV.keep {fp : List Nat} (h : InsV F w v l) (hk : Keep fp w w') (hF : ∀ c, F c → c < w.heap.size ∧ c ∉ fp) : InsV F w' v l := by
 obtain ⟨a, cap, h1, h2⟩ := h
 refine ⟨a, cap, h1, fun h0 => ?_⟩
 obtain ⟨b, q, h3, h4, h5⟩ := h2 h0
 exact ⟨b, q, h3, h4, range_keep h5 hk (hF b h4).1 (hF b h4).2⟩
theorem InsV.at (h : InsV F w v l) {i : Nat} {x : Is} (hx : l[i]? = some x) : ∃ b q cap, v = .slice (some ⟨b, q, none⟩) l.length cap ∧ F b ∧ w.rangeAt b (q + i * 4) (iC x) := by
 obtain ⟨a, cap, h1, h2⟩ := h
 have hi := (List.getElem?_eq_some_iff.1 hx).1
 obtain ⟨b, q, h3, h4, h5⟩ := h2 (by omega)
 refine ⟨b, q, cap, by rw [h1, h3], h4, fun j u hu => ?_⟩
 have hf : ((isC l).drop (i * 4)).take 4 = iC x := flat_at (fun p _ => iC_length p) hx
 have := h5 (i * 4 + j) u (by
  have hj : j < 4 := by have := (List.getElem?_eq_some_iff.1 hu).1; simpa [iC_length] using this
  rw [← hf, List.getElem?_take, if_pos hj, List.getElem?_drop] at hu
  exact hu)
 rw [← Nat.add_assoc] at this
 exact this
theorem InsV.nil : InsV F w (.slice none 0 0) [] := ⟨none, 0, rfl, fun h => absurd h (by simp)⟩
end
def RowI (e : Nat) (w : World) (B : Nat) (v : Value) (l : List Is) : Prop := Own w B e 4 v l.length (isC l)
section
variable {e B : Nat} {w w' : World} {v : Value} {l : List Is}
theorem RowI.nil (e : Nat) (w : World) (B : Nat) : RowI e w B (.slice none 0 0) [] := Own.nil w B e 4
theorem RowI.form (h : RowI e w B v l) : ∃ a cap, v = .slice a l.length cap := Own.form h
theorem RowI.ins (h : RowI e w B v l) : InsV (fun c => B ≤ c ∧ c < w.heap.size) w v l := by
 rcases h.2 with ⟨h1, h2⟩ | ⟨g, cap, cur, h1, hB, hb, hc, hl, ht⟩
 ·exact ⟨none, 0, by rw [h1, h2], fun h0 => by omega⟩
 ·exact ⟨_, cap, h1, fun h0 => ⟨g, 0, rfl, ⟨hB, hb.lt⟩, hb.range (by rw [List.drop_zero, isC_length]; exact ht)⟩⟩
theorem RowI.keep {fp : List Nat} (h : RowI e w B v l) (hk : Keep fp w w') (hf : ∀ k ∈ fp, k < B) : RowI e w' B v l := Own.keep h hk fun k hv hm => by
 have := (Own.lt h k hv).1
 have := hf k hm
 omega
theorem RowI.keep0 (h : RowI e w B v l) (hk : Keep [] w w') : RowI e w' B v l := h.keep hk fun _ hm => by cases hm
theorem RowI.own (h : RowI e w B v l) : ∀ k ∈ v.ownBlock.toList, B ≤ k ∧ k < w.heap.size := fun k hk => Own.lt h k (by simpa using hk)
end
section
variable {P : Program} {n : Nat} {σ : Env} {o : Oper} {w : World} {v : Value} {K : Value → World → Prop}
theorem opTo_appZ {t : TypeId} {s x : Operand} {a : Option Addr} {c ln B e size bytes : Nat} {xs : List Value} (ho : o.op = .call { callee := .builtin .append, args := #[s, x], argTypes := #[t, t] }) (hs : ev σ s = some v) (hx : ev σ x = some (.slice a 0 c))
  (hP : appOk P t e size bytes = true) (hown : Own w B e size v ln xs) (hK : K v w) : OpTo P n σ o w K := by
 obtain ⟨i, z, hu, hi, hz, hsize, hby, hzs⟩ := appOk_run hP
 have hr : (Builtin.append_ #[t, t] o.type #[v, .slice a 0 c]).run P w = .ok v w := by
  rcases hown.2 with ⟨rfl, rfl⟩ | ⟨g, cap, cur, rfl, _, _, hnc, _⟩
  ·cases a <;> simp [Builtin.append_, run_underlying hu, sizeOf, typeInfo, hi, Builtin.lenOf, Builtin.firstCells, loadCells, loadCellsFrom]
  ·cases a <;> simp [Builtin.append_, run_underlying hu, sizeOf, typeInfo, hi, Builtin.lenOf, Builtin.firstCells, loadCells, loadCellsFrom, hnc, storeCells]
 refine opTo_run (w' := w) (v := v) (fun ac ha => ?_) hK
 simp [execOp, ho, resolve, invoke, builtin, ha.eval hs, ha.eval hx, hr]
theorem opTo_rowApp {t : TypeId} {s x : Operand} {e B : Nat} {F : Nat → Prop} {vx : Value} (l m : List Is) (ho : o.op = .call { callee := .builtin .append, args := #[s, x], argTypes := #[t, t] }) (hs : ev σ s = some v) (hx : ev σ x = some vx)
  (hP : appOk P t e 4 32 = true) (hrow : RowI e w B v l) (hm : InsV F w vx m) (hb : l.length + m.length ≤ 1000000) (hB : B ≤ w.heap.size)
  (hK : ∀ v' w', RowI e w' B v' (l ++ m) → Keep v.ownBlock.toList w w' → K v' w') : OpTo P n σ o w K := by
 obtain ⟨a, cap, rfl, h2⟩ := hm
 by_cases h0 : 0 < m.length
 ·obtain ⟨b, q, rfl, _, hr⟩ := h2 h0
  refine opTo_app B e 4 32 (isC l) (isC m) ho hs hx hP hrow hr (isC_length m) (isC_one m) h0 (by unfold maxLen; omega) (by omega) hB ?_
  intro g c w' hown hk
  rw [← isC_app, ← List.length_append] at hown
  refine hK _ _ (by rw [← List.length_append]; exact hown) ?_
  rcases hk with ⟨h3, _, h4⟩ | ⟨_, h4, _⟩
  ·rw [h3]; exact h4
  ·exact h4.of0
 ·have hm0 : m = [] := List.eq_nil_of_length_eq_zero (by omega)
  subst hm0
  refine opTo_appZ ho hs hx hP hrow (hK _ _ ?_ (Keep.refl _ _))
  rw [List.append_nil]
  exact hrow
end
section
variable {P : Program} {n : Nat} {σ : Env} {o : Oper} {w : World}
def intSl (P : Program) (t e : Nat) : Bool :=
 match P.underlying t with
 | some (.slice e') => e' == e && (match P.info? e with
  | some i => i.size == 1 && i.bytes == 8 && (match i.zero with | some (.int .i64 z) => z == 0 | _ => false)
  | none => false)
 | _ => false
theorem made_ints (len : Nat) : madeCells #[Value.int .i64 0] (len * 1) = (List.replicate len (Value.int .i64 0)).toArray := by
 apply Array.ext
 ·simp [size_madeCells]
 ·intro i h1 h2
  simp [madeCells, Nat.mod_one]
theorem opTo_makeI {t : TypeId} {l c : Operand} {k1 k2 : IntKind} {K : Value → World → Prop} (e len : Nat) (ho : o.op = .makeSlice t l c) (hl : ev σ l = some (.int k1 (len : Nat))) (hc : ev σ c = some (.int k2 (len : Nat)))
  (hP : intSl P t e = true) (hlen : len ≤ 1000000) (hK : ∀ w1 b, b = w.heap.size → w1.heap.size = b + 1 → Keep [] w w1 → Blk w1 b (List.replicate len (.int .i64 0)) e → K (.slice (some ⟨b, 0, none⟩) len len) w1) : OpTo P n σ o w K := by
 unfold intSl at hP
 split at hP
 ·rename_i e' hu
  simp only [Bool.and_eq_true, beq_iff_eq] at hP
  obtain ⟨rfl, hP⟩ := hP
  split at hP
  ·rename_i i hi
   simp only [Bool.and_eq_true, beq_iff_eq] at hP
   obtain ⟨⟨h1, h2⟩, h3⟩ := hP
   split at h3
   ·rename_i z hz
    have : z = 0 := by simpa using h3
    subst this
    exact opTo_make len (List.replicate len (.int .i64 0)) i _ ho hl hc hu hi hz (by rw [h2]; omega) (by omega) (by rw [h1]; exact made_ints len) (hK _ _ rfl (World.size_alloc _ _) ((Keep.refl _ _).alloc _) (Blk.new _ _ _))
   ·cases h3
  ·cases hP
 ·cases hP
end
end
end E
end Go.Proofs.YtoigoojdbpbhoagGreatDoor
