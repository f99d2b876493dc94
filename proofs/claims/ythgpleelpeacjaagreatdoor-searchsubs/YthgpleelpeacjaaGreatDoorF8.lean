/- Own text. -/
import Derived.Test.YthgpleelpeacjaaGreatDoorF7
import Derived.Shelf.Abstract
import Derived.Laws.CopyRow
import Derived.Laws.IdiomCopy
import Derived.Laws.OwnMore
set_option linter.unusedSimpArgs false
set_option linter.unusedVariables false
set_option maxRecDepth 20000
set_option maxHeartbeats 12800000
namespace Go.Proofs.YthgpleelpeacjaaGreatDoor
open Go.RowKit
def fixR (o : Int) (l : List Int) : Option (List Int) := if 0 ≤ o ∧ o ≤ 4 ∧ o ≤ (l.length : Int) then some (leftN (wF o.toNat) 0 l (l.length - o.toNat)) else none
def mayB (C : List Int) (sh : Int) : Bool := decide (1 ≤ C.length) && decide (C.length ≤ 32) && decide (0 ≤ sh) && decide (sh ≤ 31)
def lpcR (C : List Int) (sh : Int) (l : List Int) : Option (List Int) := if mayB C sh = true ∧ C.length ≤ l.length then some (leftN C sh.toNat l (l.length - C.length)) else none
theorem ret_none {R : Option (List Int)} (h : R = none) {w w' : World} {e : Ending} (he : e = .returned (.tuple #[.slice none 0 0, .int .i64 1])) (hb : Below w.heap.size w w') : Ret2 R w e w' := by
 subst h; exact ⟨none, 0, he, IntsAt.nil w', hb⟩
theorem ret_some {R : Option (List Int)} {L : List Int} (h : R = some L) {w w' : World} {e : Ending} {la : Option Addr} {lc : Nat} (he : e = .returned (.tuple #[.slice la L.length lc, .int .i64 0])) (hi : IntsAt w' la L) (hb : Below w.heap.size w w') : Ret2 R w e w' := by
 subst h; exact ⟨la, lc, he, hi, hb⟩
theorem mayB_iff (C : List Int) (sh : Int) : mayB C sh = true ↔ 1 ≤ C.length ∧ C.length ≤ 32 ∧ 0 ≤ sh ∧ sh ≤ 31 := by unfold mayB; simp [and_assoc]
theorem xfixed_spec (o : Int) (l : List Int) (la : Option Addr) (lc : Nat) (w : World) (hl : IntsAt w la l) : Calls Tryz.prog 33 #[.int .i64 o, .slice la l.length lc] w (Ret2 (fixR o l) w) := by
 have h1 := hl.len
 by_cases h1 : o < 0
 ·have HR : Hid (fixR o l = none) := by show _ = _; unfold fixR; rw [if_neg (by omega)]
  go_enter Tryz.func33, Tryz.ntmps33
  go_wp2_with fail
  go_ret2
  exact ret_none HR.out rfl (Below.refl _ _)
 ·skip
  by_cases h2 : 4 < o
  ·have HR : Hid (fixR o l = none) := by show _ = _; unfold fixR; rw [if_neg (by omega)]
   go_enter Tryz.func33, Tryz.ntmps33
   go_wp2_with fail
   go_ret2
   exact ret_none HR.out rfl (Below.refl _ _)
  ·skip
   by_cases h3 : (l.length : Int) < o
   ·have HR : Hid (fixR o l = none) := by show _ = _; unfold fixR; rw [if_neg (by omega)]
    go_enter Tryz.func33, Tryz.ntmps33
    go_wp2_with fail
    go_ret2
    exact ret_none HR.out rfl (Below.refl _ _)
   ·skip
    obtain ⟨o', rfl⟩ : ∃ o' : Nat, o = (o' : Int) := ⟨o.toNat, by omega⟩
    have ho4 : o' ≤ 4 := by omega
    have hol : o' ≤ l.length := by omega
    have HR : Hid (fixR (o' : Int) l = some (leftN (wF o') 0 l (l.length - (wF o').length))) := by
     show _ = _
     unfold fixR; rw [if_pos (by omega), wF_len o' ho4]; rfl
    have kw := xweights_spec o' ho4 w
    have hwl := wF_len o' ho4
    have HL : Hid (IntsAt w la l) := hl
    clear hl
    go_enter Tryz.func33, Tryz.ntmps33
    go_wp2_with fail
    refine kw.mono ?_
    rintro e w2 ⟨ca, cc, rfl, hc, hb2⟩
    have kl := xleft_spec (wF o') l ca la cc lc 0 (by omega) (by omega) w2 hc (HL.out.below hb2)
    have HB2 : Hid (Below w.heap.size w w2) := hb2
    have HLN : Hid ((leftN (wF o') 0 l (l.length - (wF o').length)).length ≤ 17592186044415 ∧ ∀ n ∈ leftN (wF o') 0 l (l.length - (wF o').length), -9223372036854775808 ≤ n ∧ n ≤ 9223372036854775807) := ⟨by rw [leftN_len]; omega, leftN_rng _ _ _ _⟩
    clear kw hb2 hc hwl
    generalize leftN (wF o') 0 l (l.length - (wF o').length) = R at *
    go_wp2_with fail
    refine kl.mono ?_
    rintro e w3 ⟨v, rfl, hout⟩
    obtain ⟨ao, ac, rfl⟩ := hout.shape
    have HI : Hid (IntsAt w3 ao R ∧ Below w.heap.size w w3) := ⟨hout.ints HLN.out.1 HLN.out.2, HB2.out.trans (hout.below.mono HB2.out.size)⟩
    clear hout kl
    go_wp2_with fail
    go_ret2
    exact ret_some HR.out rfl HI.out.1 HI.out.2
theorem xmay_spec (C : List Int) (sh : Int) (ca : Option Addr) (cc : Nat) (w : World) (hC : IntsAt w ca C) : Calls Tryz.prog 80 #[.slice ca C.length cc, .int .i64 sh] w fun e w' => e = .returned (.bool (mayB C sh)) ∧ w' = w := by
 have h1 := hC.len
 have HM : Hid (mayB C sh = (decide (1 ≤ C.length) && decide (C.length ≤ 32) && decide (0 ≤ sh) && decide (sh ≤ 31))) := rfl
 clear hC
 by_cases g1 : ¬ 1 ≤ C.length
 ·have hF : mayB C sh = false := by
   cases h : mayB C sh with
   | false => rfl
   | true => rw [mayB_iff] at h; omega
  rw [hF]
  clear HM hF
  go_enter Tryz.func80, Tryz.ntmps80
  go_wp2_with fail
  go_ret
  exact ⟨rfl, rfl⟩
 ·skip
  by_cases g2 : ¬ C.length ≤ 32
  ·have hF : mayB C sh = false := by
    cases h : mayB C sh with
    | false => rfl
    | true => rw [mayB_iff] at h; omega
   rw [hF]
   clear HM hF
   go_enter Tryz.func80, Tryz.ntmps80
   go_wp2_with fail
   go_ret
   exact ⟨rfl, rfl⟩
  ·skip
   by_cases g3 : ¬ 0 ≤ sh
   ·have hF : mayB C sh = false := by
     cases h : mayB C sh with
     | false => rfl
     | true => rw [mayB_iff] at h; omega
    rw [hF]
    clear HM hF
    go_enter Tryz.func80, Tryz.ntmps80
    go_wp2_with fail
    go_ret
    exact ⟨rfl, rfl⟩
   ·skip
    by_cases g4 : ¬ sh ≤ 31
    ·have hF : mayB C sh = false := by
      cases h : mayB C sh with
      | false => rfl
      | true => rw [mayB_iff] at h; omega
     rw [hF]
     clear HM hF
     go_enter Tryz.func80, Tryz.ntmps80
     go_wp2_with fail
     go_ret
     exact ⟨rfl, rfl⟩
    ·skip
     have hF : mayB C sh = true := by rw [mayB_iff]; omega
     rw [hF]
     clear HM hF
     go_enter Tryz.func80, Tryz.ntmps80
     go_wp2_with fail
     go_ret
     exact ⟨rfl, rfl⟩
theorem xlpc_spec (C l : List Int) (sh : Int) (ca la : Option Addr) (cc lc : Nat) (w : World) (hC : IntsAt w ca C) (hl : IntsAt w la l) : Calls Tryz.prog 34 #[.slice ca C.length cc, .int .i64 sh, .slice la l.length lc] w (Ret2 (lpcR C sh l) w) := by
 have km := xmay_spec C sh ca cc w hC
 have h1 := hC.len
 have h2 := hl.len
 have HC : Hid (IntsAt w ca C) := hC
 have HL : Hid (IntsAt w la l) := hl
 clear hC hl
 cases hm : mayB C sh with
 | false =>
  have HR : Hid (lpcR C sh l = none) := by show _ = _; unfold lpcR; rw [hm, if_neg (fun h => by cases h.1)]
  rw [hm] at km
  clear hm
  go_enter Tryz.func34, Tryz.ntmps34
  go_wp2_with fail
  refine km.mono ?_
  rintro e w2 ⟨rfl, rfl⟩
  go_wp2_with fail
  go_ret2
  exact ret_none HR.out rfl (Below.refl _ _)
 | true =>
  obtain ⟨m1, m2, m3, m4⟩ := (mayB_iff C sh).1 hm
  obtain ⟨s', rfl⟩ : ∃ s' : Nat, sh = (s' : Int) := ⟨sh.toNat, by omega⟩
  have hs31 : s' ≤ 31 := by omega
  by_cases hk : C.length ≤ l.length
  ·have hk2 : (C.length : Int) ≤ (l.length : Int) := by omega
   have HR : Hid (lpcR C (s' : Int) l = some (leftN C s' l (l.length - C.length))) := by show _ = _; unfold lpcR; rw [hm, if_pos ⟨rfl, hk⟩]; rfl
   rw [hm] at km
   clear hm
   go_enter Tryz.func34, Tryz.ntmps34
   go_wp2_with fail
   refine km.mono ?_
   rintro e w2 ⟨rfl, rfl⟩
   have kl := xleft_spec C l ca la cc lc s' hs31 hk w2 HC.out HL.out
   have HLN : Hid ((leftN C s' l (l.length - C.length)).length ≤ 17592186044415 ∧ ∀ n ∈ leftN C s' l (l.length - C.length), -9223372036854775808 ≤ n ∧ n ≤ 9223372036854775807) := ⟨by rw [leftN_len]; omega, leftN_rng _ _ _ _⟩
   generalize leftN C s' l (l.length - C.length) = R at *
   clear km
   go_wp2_with fail
   refine kl.mono ?_
   rintro e w3 ⟨v, rfl, hout⟩
   obtain ⟨ao, ac, rfl⟩ := hout.shape
   have HI : Hid (IntsAt w3 ao R ∧ Below w2.heap.size w2 w3) := ⟨hout.ints HLN.out.1 HLN.out.2, hout.below⟩
   clear hout kl
   go_wp2_with fail
   go_ret2
   exact ret_some HR.out rfl HI.out.1 HI.out.2
  ·have HR : Hid (lpcR C (s' : Int) l = none) := by show _ = _; unfold lpcR; rw [if_neg (fun h => hk h.2)]
   have hk2 : (l.length : Int) < (C.length : Int) := by omega
   rw [hm] at km
   clear hm
   go_enter Tryz.func34, Tryz.ntmps34
   go_wp2_with fail
   refine km.mono ?_
   rintro e w2 ⟨rfl, rfl⟩
   go_wp2_with fail
   go_ret2
   exact ret_none HR.out rfl (Below.refl _ _)
theorem make_ints (n : Nat) (hn : n ≤ 17592186044415) (w : World) : (Instr.makeSlice 22 (.int .i64 (n : Int)) (.int .i64 (n : Int))).run Tryz.prog w = .ok (.slice (some ⟨w.heap.size, 0, none⟩) n n) (w.alloc (.cells (madeCells #[.int .i64 0] n) 3)) := by
 obtain ⟨i, h1, h2, h3, h4⟩ := int_info
 have hh := run_make (P := Tryz.prog) w 22 3 i _ undI3 h1 h2 .i64 .i64 (n : Int) (n : Int) (by omega) (Int.le_refl _) (by rw [h4]; omega) (by omega)
 rw [h3] at hh
 simpa [Value.cells] using hh
structure Fill (w : World) (g : Nat) (L : List Int) (i : Nat) (wx : World) : Prop where
 row : ∃ cs : Array Value, wx.heap[g]? = some (.cells cs 3 (0, 0)) ∧ ∀ j, j < L.length → cs[j]? = some (.int .i64 (if j < i then L.getD j 0 else 0))
 below : Below w.heap.size w wx
 le : w.heap.size ≤ g
section
variable {w wx w' : World} {g : Nat} {L : List Int} {i : Nat}
theorem Fill.made (w wx : World) (hb : Below w.heap.size w wx) (L : List Int) : Fill w wx.heap.size L 0 (wx.alloc (.cells (madeCells #[.int .i64 0] L.length) 3)) := by
 refine ⟨⟨_, heap_alloc_new _ _, fun j hj => ?_⟩, hb.alloc hb.size _, hb.size⟩
 rw [if_neg (Nat.not_lt_zero _)]
 simp only [madeCells, Array.getElem?_map, Array.getElem?_range, hj, if_true, Option.map_some]
 have hs : (#[.int .i64 0] : Array Value).size = 1 := rfl
 rw [hs, Nat.mod_one]
 rfl
theorem Fill.low (h : Fill w g L i wx) (hb : Below wx.heap.size wx w') : Fill w g L i w' := by
 obtain ⟨cs, h1, h2⟩ := h.row
 exact ⟨⟨cs, by rw [hb.block _ (lt_of_block h1)]; exact h1, h2⟩, h.below.trans (hb.mono h.below.size), h.le⟩
theorem Fill.drew (h : Fill w g L i wx) : Fill w g L i wx.drew := h.low ⟨rfl, rfl, rfl, Nat.le_refl _, fun _ _ => rfl⟩
theorem Fill.cell (h : Fill w g L i wx) (j : Nat) (hj : j < L.length) : wx.cell? ⟨g, j, none⟩ = some (.int .i64 (if j < i then L.getD j 0 else 0)) := by
 obtain ⟨cs, h1, h2⟩ := h.row
 rw [cell_row h1]; exact h2 j hj
theorem Fill.frozen (h : Fill w g L i wx) (j : Nat) : wx.frozen? ⟨g, j, none⟩ = false := by
 obtain ⟨cs, h1, _⟩ := h.row
 simp [World.frozen?, h1]
theorem Fill.set (h : Fill w g L i wx) (hi : i < L.length) : Fill w g L (i + 1) (wx.setCell ⟨g, i, none⟩ (.int .i64 (L.getD i 0))) := by
 obtain ⟨cs, h1, h2⟩ := h.row
 refine ⟨⟨cs.setIfInBounds i (.int .i64 (L.getD i 0)), heap_setCell_same _ _ _ _ _ _ h1, fun j hj => ?_⟩, h.below.setCell h.le _, h.le⟩
 rw [Array.getElem?_setIfInBounds]
 by_cases e : i = j
 ·subst e
  have hlt : i < cs.size := by
   rcases Nat.lt_or_ge i cs.size with h3 | h3
   ·exact h3
   ·have := h2 i hi; rw [Array.getElem?_eq_none h3] at this; cases this
  rw [if_pos rfl, if_pos hlt, if_pos (by omega)]
 ·rw [if_neg e, h2 j hj]
  by_cases e2 : j < i
  ·rw [if_pos e2, if_pos (by omega)]
  ·rw [if_neg e2, if_neg (by omega)]
end
theorem getD_shr (l : List Int) (k j : Nat) : (shrL l k).getD j 0 = l.getD j 0 / 2 ^ k := by
 unfold shrL
 rw [List.getD_eq_getElem?_getD, List.getD_eq_getElem?_getD, List.getElem?_map]
 cases l[j]? with
 | none => simp
 | some x => rfl
theorem foreS_part (C l : List Int) (i n k : Nat) (hk : k ≤ n) : foreS C ((l.drop i).take n) n k = foreS C l (i + n) k := by
 induction k with
 | zero => rfl
 | succ k ih =>
  unfold foreS
  rw [ih (by omega), getD_part l i n (n - 1 - k) (by omega), show i + (n - 1 - k) = i + n - 1 - k by omega]
theorem foreN_part (C : List Int) (sh : Nat) (l : List Int) (i : Nat) : foreN C sh ((l.drop i).take C.length) C.length = foreN C sh l (i + C.length) := by
 unfold foreN; rw [foreS_part C l i C.length C.length (Nat.le_refl _)]
def shB (k : Int) : Bool := decide (0 ≤ k) && decide (k ≤ 31)
theorem shB_iff (k : Int) : shB k = true ↔ 0 ≤ k ∧ k ≤ 31 := by unfold shB; simp
theorem mayB_sh (C : List Int) (sh : Int) (h1 : 1 ≤ C.length) (h2 : C.length ≤ 32) : mayB C sh = shB sh := by
 unfold mayB shB; simp [h1, h2]
theorem qsh_spec (k : Int) (w : World) : Calls Tryz.prog 139 #[.int .i64 k] w fun e w' => e = .returned (.bool (shB k)) ∧ w' = w := by
 by_cases g1 : ¬ 0 ≤ k
 ·have hF : shB k = false := by
   cases h : shB k with
   | false => rfl
   | true => rw [shB_iff] at h; omega
  rw [hF]
  clear hF
  go_enter Tryz.func139, Tryz.ntmps139
  go_wp2_with fail
  go_ret
  exact ⟨rfl, rfl⟩
 ·skip
  by_cases g2 : ¬ k ≤ 31
  ·have hF : shB k = false := by
    cases h : shB k with
    | false => rfl
    | true => rw [shB_iff] at h; omega
   rw [hF]
   clear hF
   go_enter Tryz.func139, Tryz.ntmps139
   go_wp2_with fail
   go_ret
   exact ⟨rfl, rfl⟩
  ·skip
   have hF : shB k = true := by rw [shB_iff]; omega
   rw [hF]
   clear hF
   go_enter Tryz.func139, Tryz.ntmps139
   go_wp2_with fail
   go_ret
   exact ⟨rfl, rfl⟩
theorem qmay_spec (C : List Int) (sh : Int) (ca : Option Addr) (cc : Nat) (w : World) (hC : IntsAt w ca C) : Calls Tryz.prog 217 #[.slice ca C.length cc, .int .i64 sh] w fun e w' => e = .returned (.bool (mayB C sh)) ∧ w' = w := by
 have h1 := hC.len
 clear hC
 by_cases g1 : ¬ 1 ≤ C.length
 ·have hF : mayB C sh = false := by
   cases h : mayB C sh with
   | false => rfl
   | true => rw [mayB_iff] at h; omega
  rw [hF]
  clear hF
  go_enter Tryz.func217, Tryz.ntmps217
  go_wp2_with fail
  go_ret
  exact ⟨rfl, rfl⟩
 ·skip
  by_cases g2 : ¬ C.length ≤ 32
  ·have hF : mayB C sh = false := by
    cases h : mayB C sh with
    | false => rfl
    | true => rw [mayB_iff] at h; omega
   rw [hF]
   clear hF
   go_enter Tryz.func217, Tryz.ntmps217
   go_wp2_with fail
   go_ret
   exact ⟨rfl, rfl⟩
  ·skip
   rw [mayB_sh C sh (by omega) (by omega)]
   have ks := qsh_spec sh w
   generalize shB sh = bb at *
   go_enter Tryz.func217, Tryz.ntmps217
   go_wp2_with fail
   refine ks.mono ?_
   rintro e w2 ⟨rfl, hw2⟩
   subst hw2
   clear ks
   go_wp2_with fail
   go_ret
   exact ⟨rfl, rfl⟩
theorem qcoefs_spec (o : Nat) (ho : o ≤ 4) (w : World) : Calls Tryz.prog 216 #[.int .i64 (o : Int)] w fun e w' => ∃ ca cc, e = .returned (.slice ca (wF o).length cc) ∧ IntsAt w' ca (wF o) ∧ Below w.heap.size w w' := by
 rcases (show o = 0 ∨ o = 1 ∨ o = 2 ∨ o = 3 ∨ o = 4 by omega) with rfl | rfl | rfl | rfl | rfl
 ·go_enter Tryz.func216, Tryz.ntmps216
  go_wp2_with fail
  go_ret
  exact ⟨none, 0, rfl, IntsAt.nil w, Below.refl _ _⟩
 ·have HI : Hid (IntsAt (w.alloc (.cells #[.int .i64 1] 3)) (some ⟨w.heap.size, 0, none⟩) (wF 1)) := ints_new w (wF 1) (by decide) (by decide)
  have HB : Hid (Below w.heap.size w (w.alloc (.cells #[.int .i64 1] 3))) := (Below.refl _ _).alloc (Nat.le_refl _) _
  go_enter Tryz.func216, Tryz.ntmps216
  go_wp2_with fail
  go_ret
  exact ⟨_, _, rfl, HI.out, HB.out⟩
 ·have HI : Hid (IntsAt (w.alloc (.cells #[.int .i64 2, .int .i64 (-1)] 3)) (some ⟨w.heap.size, 0, none⟩) (wF 2)) := ints_new w (wF 2) (by decide) (by decide)
  have HB : Hid (Below w.heap.size w (w.alloc (.cells #[.int .i64 2, .int .i64 (-1)] 3))) := (Below.refl _ _).alloc (Nat.le_refl _) _
  go_enter Tryz.func216, Tryz.ntmps216
  go_wp2_with fail
  go_ret
  exact ⟨_, _, rfl, HI.out, HB.out⟩
 ·have HI : Hid (IntsAt (w.alloc (.cells #[.int .i64 3, .int .i64 (-3), .int .i64 1] 3)) (some ⟨w.heap.size, 0, none⟩) (wF 3)) := ints_new w (wF 3) (by decide) (by decide)
  have HB : Hid (Below w.heap.size w (w.alloc (.cells #[.int .i64 3, .int .i64 (-3), .int .i64 1] 3))) := (Below.refl _ _).alloc (Nat.le_refl _) _
  go_enter Tryz.func216, Tryz.ntmps216
  go_wp2_with fail
  go_ret
  exact ⟨_, _, rfl, HI.out, HB.out⟩
 ·have HI : Hid (IntsAt (w.alloc (.cells #[.int .i64 4, .int .i64 (-6), .int .i64 4, .int .i64 (-1)] 3)) (some ⟨w.heap.size, 0, none⟩) (wF 4)) := ints_new w (wF 4) (by decide) (by decide)
  have HB : Hid (Below w.heap.size w (w.alloc (.cells #[.int .i64 4, .int .i64 (-6), .int .i64 4, .int .i64 (-1)] 3))) := (Below.refl _ _).alloc (Nat.le_refl _) _
  go_enter Tryz.func216, Tryz.ntmps216
  go_wp2_with fail
  go_ret
  exact ⟨_, _, rfl, HI.out, HB.out⟩
structure Lin (b : Nat) (C : List Int) (ca : Option Addr) (cc sh : Nat) (w : World) : Prop where
 cf : w.cell? ⟨b, 0, none⟩ = some (.slice ca C.length cc)
 sh : w.cell? ⟨b + 1, 0, none⟩ = some (.int .i64 (sh : Int))
 ints : IntsAt w ca C
theorem Lin.below {b : Nat} {C : List Int} {ca : Option Addr} {cc sh : Nat} {w w' : World} (h : Lin b C ca cc sh w) (hb : Below w.heap.size w w') : Lin b C ca cc sh w' :=
 ⟨by rw [World.cell?_of_block (w := w) (hb.block b (lt_cell h.cf))]; exact h.cf, by rw [World.cell?_of_block (w := w) (hb.block (b + 1) (lt_cell h.sh))]; exact h.sh, h.ints.below hb⟩
abbrev linV (b : Nat) : Value := .func (.func 234) #[] #[.pointer (some ⟨b, 0, none⟩), .pointer (some ⟨b + 1, 0, none⟩)]
theorem qlinear_spec (C : List Int) (ca : Option Addr) (cc sh : Nat) (w : World) (hC : IntsAt w ca C) : Calls Tryz.prog 215 #[.slice ca C.length cc, .int .i64 (sh : Int)] w fun e w' => ∃ b, e = .returned (linV b) ∧ Lin b C ca cc sh w' ∧ Below w.heap.size w w' := by
 have HB : Hid (Below w.heap.size w ((w.alloc (.cells #[.slice ca C.length cc] 22)).alloc (.cells #[.int .i64 (sh : Int)] 3))) := ((Below.refl _ _).alloc (Nat.le_refl _) _).alloc (by simp) _
 have HL : Hid (Lin w.heap.size C ca cc sh ((w.alloc (.cells #[.slice ca C.length cc] 22)).alloc (.cells #[.int .i64 (sh : Int)] 3))) := by
  refine ⟨?_, ?_, hC.below HB.out⟩
  ·rw [cell_row (heap_two _ _ _)]; rfl
  ·have hh := heap_alloc_new (w.alloc (.cells #[.slice ca C.length cc] 22)) (.cells #[.int .i64 (sh : Int)] 3)
   rw [show (w.alloc (.cells #[.slice ca C.length cc] 22)).heap.size = w.heap.size + 1 from by simp] at hh
   rw [cell_row hh]; rfl
 clear hC
 go_enter Tryz.func215, Tryz.ntmps215
 go_wp2_with fail
 go_ret
 exact ⟨_, rfl, HL.out, HB.out⟩
theorem qclos_spec (C past : List Int) (ca pa : Option Addr) (cc pc : Nat) (sh b : Nat) (hsh : sh ≤ 31) (hCp : C.length ≤ past.length) (w : World) (hL : Lin b C ca cc sh w) (hp : IntsAt w pa past) :
  Calls Tryz.prog 234 (#[.slice pa past.length pc] ++ #[.pointer (some ⟨b, 0, none⟩), .pointer (some ⟨b + 1, 0, none⟩)]) w fun e w' => e = .returned (.int .i64 (foreN C sh past past.length)) ∧ w' = w := by
 have h1 := hp.len
 have h2 := hL.ints.len
 have c1 := hL.cf
 have c2 := hL.sh
 have HC : Hid (IntsAt w ca C) := hL.ints
 have HP : Hid (IntsAt w pa past) := hp
 have HF : Hid (foreN C sh past past.length = foreS C past past.length C.length / 2 ^ sh) := rfl
 clear hL hp
 go_enter Tryz.func234, Tryz.ntmps234
 go_wp2_with fail
 go_loopw [5, 6, 7, 10] (fun s s6 s7 t wr => ∃ k : Nat, k ≤ C.length ∧ t = .int .i64 (k : Int) ∧ s = .int .i64 (foreS C past past.length k) ∧ wr = w) (fun _ _ _ t _ => C.length - (intOf t).toNat)
 case atStart => exact ⟨0, Nat.zero_le _, rfl, rfl, rfl⟩
 case round =>
  obtain ⟨k, hk, rfl, rfl, rfl⟩ := hrel
  have hfr := foreS_rng C past past.length k
  by_cases hlt : k < C.length
  ·obtain ⟨b1, o1, rfl, q1⟩ := HC.out.at k hlt
   obtain ⟨b2, o2, rfl, q2⟩ := HP.out.at (past.length - 1 - k) (by omega)
   have r1 := q1 wr (Below.refl _ _)
   have r2 := q2 wr (Below.refl _ _)
   have HN : Hid (foreS C past past.length (k + 1) = wrap64 (foreS C past past.length k + wrap64 (C.getD k 0 * past.getD (past.length - 1 - k) 0))) := rfl
   have hix : (past.length : Int) - 1 - (k : Int) = ((past.length - 1 - k : Nat) : Int) := by omega
   have hil : past.length - 1 - k < past.length := by omega
   clear q1 q2
   generalize C.getD k 0 = x at *
   generalize past.getD (past.length - 1 - k) 0 = y at *
   generalize past.length - 1 - k = ix at *
   generalize foreS C past past.length k = su at *
   go_wp2_with fail
   go_roundw
   case rel => exact ⟨k + 1, by omega, by go_num, by rw [HN.out], trivial⟩
   case measure => simp [intOf]; omega
  ·have hke : k = C.length := by omega
   subst hke
   generalize foreS C past past.length C.length = su at *
   have hs2 : (sh : Int) ≤ 31 := by omega
   go_wp2_with fail
   go_ret
   exact ⟨by rw [HF.out]; rfl, rfl⟩
structure Made (w : World) (ao : Option Addr) (cap : Nat) (L : List Int) (wx : World) : Prop where
 at_ : ∃ g, ao = some ⟨g, 0, none⟩ ∧ w.heap.size ≤ g ∧ ∃ cs : Array Value, wx.heap[g]? = some (.cells cs 3 (0, 0)) ∧ ∀ j, j < L.length → cs[j]? = some (.int .i64 (L.getD j 0))
 cap_ : L.length ≤ cap
 len : L.length ≤ 17592186044415
 num : Rng L
 below : Below w.heap.size w wx
section
variable {w wx w' w0 : World} {ao : Option Addr} {cap : Nat} {L : List Int}
theorem Made.ints (h : Made w ao cap L wx) : IntsAt wx ao L := by
 obtain ⟨g, rfl, _, cs, h1, h2⟩ := h.at_
 exact ⟨h.len, h.num, fun _ => ⟨g, 0, rfl, fun j hj => by rw [cell_row h1, Nat.zero_add]; exact h2 j hj⟩⟩
theorem Made.up (h : Made w ao cap L wx) (hb : Below w0.heap.size w0 w) : Made w0 ao cap L wx := by
 obtain ⟨g, h0, h1, h2⟩ := h.at_
 exact ⟨⟨g, h0, Nat.le_trans hb.size h1, h2⟩, h.cap_, h.len, h.num, hb.trans (h.below.mono hb.size)⟩
theorem Made.none_ (h : Made w ao cap L wx) : ao = none → cap = 0 := fun e => by
 obtain ⟨g, h0, _⟩ := h.at_
 rw [e] at h0; cases h0
theorem Made.of_fill {g : Nat} (h : Fill w g L L.length wx) (hc : L.length ≤ cap) (hl : L.length ≤ 17592186044415) (hn : Rng L) : Made w (some ⟨g, 0, none⟩) cap L wx := by
 obtain ⟨cs, h1, h2⟩ := h.row
 exact ⟨⟨g, rfl, h.le, cs, h1, fun j hj => by rw [h2 j hj, if_pos hj]⟩, hc, hl, hn, h.below⟩
end
def RetM (R : Option (List Int)) (w : World) (e : Ending) (w' : World) : Prop := match R with
 | none => e = .returned (.tuple #[.slice none 0 0, .int .i64 1]) ∧ Below w.heap.size w w'
 | some L => ∃ la lc, e = .returned (.tuple #[.slice la L.length lc, .int .i64 0]) ∧ Made w la lc L w'
theorem retM_none {R : Option (List Int)} (h : R = none) {w w' : World} {e : Ending} (he : e = .returned (.tuple #[.slice none 0 0, .int .i64 1])) (hb : Below w.heap.size w w') : RetM R w e w' := by
 subst h; exact ⟨he, hb⟩
theorem retM_some {R : Option (List Int)} {L : List Int} (h : R = some L) {w w' : World} {e : Ending} {la : Option Addr} {lc : Nat} (he : e = .returned (.tuple #[.slice la L.length lc, .int .i64 0])) (hi : Made w la lc L w') : RetM R w e w' := by
 subst h; exact ⟨la, lc, he, hi⟩
theorem qleft_spec (C l : List Int) (ca la : Option Addr) (cc lc sh b : Nat) (hsh : sh ≤ 31) (hCl : C.length ≤ l.length) (hlc : l.length ≤ lc) (w : World) (hL : Lin b C ca cc sh w) (hl : IntsAt w la l) :
  Calls Tryz.prog 214 #[linV b, .int .i64 (C.length : Int), .slice la l.length lc] w fun e w' => ∃ ga gc, e = .returned (.slice ga (leftN C sh l (l.length - C.length)).length gc) ∧ Made w ga gc (leftN C sh l (l.length - C.length)) w' := by
 have h1 := hl.len
 have HL : Hid (IntsAt w la l) := hl
 have HLI : Hid (Lin b C ca cc sh w) := hL
 have hmk := make_ints (l.length - C.length) (by omega)
 have hsb : (l.length : Int) - (C.length : Int) = ((l.length - C.length : Nat) : Int) := by omega
 have HLL : Hid ((leftN C sh l (l.length - C.length)).length = l.length - C.length) := leftN_len _ _ _ _
 have HRG : Hid (Rng (leftN C sh l (l.length - C.length))) := leftN_rng _ _ _ _
 have HAT : Hid (∀ i, i < l.length - C.length → (leftN C sh l (l.length - C.length)).getD i 0 = wrap64 (l.getD (i + C.length) 0 - foreN C sh l (i + C.length))) := fun i hi => by
  rw [leftN_at C sh l _ i hi, Nat.add_comm]
 have HM : Hid (∀ L : List Int, L.length = l.length - C.length → Fill w w.heap.size L 0 (w.alloc (.cells (madeCells #[.int .i64 0] (l.length - C.length)) 3))) := fun L hLl => by
  have := Fill.made w w (Below.refl _ _) L
  rw [hLl] at this; exact this
 have KC : Hid (∀ i, i + C.length ≤ l.length → ∀ b1 o1, la = some ⟨b1, o1, none⟩ → ∀ pc wx, Below w.heap.size w wx → Calls Tryz.prog 234 (#[.slice (some ⟨b1, o1 + i, none⟩) C.length pc] ++ #[.pointer (some ⟨b, 0, none⟩), .pointer (some ⟨b + 1, 0, none⟩)]) wx fun e w' => e = .returned (.int .i64 (foreN C sh l (i + C.length))) ∧ w' = wx) := fun i hi b1 o1 hla pc wx hbx => by
  have hpl : ((l.drop i).take C.length).length = C.length := by rw [List.length_take, List.length_drop]; omega
  have hpt := hl.part i C.length hi (some ⟨b1, o1 + i, none⟩) (fun b off e _ => by rw [hla] at e; cases e; rfl)
  have hh := qclos_spec C ((l.drop i).take C.length) ca (some ⟨b1, o1 + i, none⟩) cc pc sh b hsh (by rw [hpl]; exact Nat.le_refl _) wx (hL.below hbx) (hpt.below hbx)
  rw [hpl, foreN_part] at hh
  exact hh
 clear hl hL
 generalize leftN C sh l (l.length - C.length) = L at *
 generalize hn : l.length - C.length = n at *
 generalize hq : C.length = q at *
 have HNQ : Hid (n + q = l.length) := by show _ = _; omega
 clear hn hq hCl
 go_enter Tryz.func214, Tryz.ntmps214
 go_wp2_with fail
 generalize hwa : w.alloc _ = wa at *
 have HA : Hid (Fill w w.heap.size L 0 wa) := HM.out L HLL.out
 clear hwa HM hmk
 go_loopw [8, 16] (fun s8 s16 wr => ∃ i : Nat, i ≤ n ∧ s16 = .int .i64 (i : Int) ∧ Fill w w.heap.size L i wr) (fun _ s16 _ => n - (intOf s16).toNat)
 case atStart => exact ⟨0, Nat.zero_le _, rfl, HA.out⟩
 case round =>
  clear HA
  obtain ⟨i, hi, rfl, hf⟩ := hrel
  have HA : Hid (Fill w w.heap.size L i wr) := hf
  clear hf
  by_cases hlt : i < n
  ·obtain ⟨b1, o1, rfl, q1⟩ := HL.out.at (i + q) (by have := HNQ.out; omega)
   have HQ1 : Hid (∀ wx, Below w.heap.size w wx → wx.cell? ⟨b1, o1 + (i + q), none⟩ = some (.int .i64 (l.getD (i + q) 0))) := fun wx hh => q1 wx hh
   have HK : Hid (∀ pc wx, Below w.heap.size w wx → Calls Tryz.prog 234 (#[.slice (some ⟨b1, o1 + i, none⟩) q pc] ++ #[.pointer (some ⟨b, 0, none⟩), .pointer (some ⟨b + 1, 0, none⟩)]) wx fun e w' => e = .returned (.int .i64 (foreN C sh l (i + q))) ∧ w' = wx) := fun pc wx hh => KC.out i (by have := HNQ.out; omega) b1 o1 rfl pc wx hh
   have hv0 : Hid (wrap64 (l.getD (i + q) 0 - foreN C sh l (i + q)) = L.getD i 0) := (HAT.out i hlt).symm
   have HNX : Hid (Fill w w.heap.size L (i + 1) (wr.drew.setCell ⟨w.heap.size, i, none⟩ (.int .i64 (wrap64 (l.getD (i + q) 0 - foreN C sh l (i + q)))))) := by rw [hv0.out]; exact HA.out.drew.set (by rw [HLL.out]; exact hlt)
   have HD : Hid (Fill w w.heap.size L i wr.drew) := HA.out.drew
   have hpl : i + q < l.length := by have := HNQ.out; omega
   obtain ⟨p, hp⟩ : ∃ p : Nat, p = i + q := ⟨_, rfl⟩
   have hpi : (i : Int) + (q : Int) = (p : Int) := by omega
   have hpq : p - i = q := by omega
   rw [← hp] at HQ1 HK HNX hpl q1
   have hip : i ≤ p := by omega
   have hpl2 : (p : Int) < (l.length : Int) := by omega
   have hpc2 : (p : Int) ≤ (lc : Int) := by omega
   have hip2 : (i : Int) ≤ (p : Int) := by omega
   have hpi3 : (p : Int) - (i : Int) = (q : Int) := by omega
   have hwp : IntKind.i64.wrap (p : Int) = (p : Int) := by rw [IntKind.wrap_i64]; omega
   have hne : ¬ lc = i := by omega
   have HPE : Hid (p = i + q) := hp
   clear hp
   have HCL : Hid (∀ wx, Hid (Fill w w.heap.size L i wx) → (∃ v : Int, wx.cell? ⟨w.heap.size, i, none⟩ = some (.int .i64 v)) ∧ wx.frozen? ⟨w.heap.size, i, none⟩ = false) := fun wx hh => ⟨⟨_, hh.out.cell i (by rw [HLL.out]; exact hlt)⟩, hh.out.frozen _⟩
   clear q1 HA hv0
   generalize l.getD p 0 = x at *
   generalize foreN C sh l p = fo at *
   go_wp2_with fail
   refine wp_region_held_drew (S := fun wx => Below w.heap.size w wx) (by kernel_rfl) HD.out.below (fun hS => ?_)
   refine wpAnyH_take (i := 0) (v := .slice (some ⟨w.heap.size, 0, none⟩) n n) rfl (by kernel_rfl) (by kernel_rfl) (by kernel_rfl) (fun _ _ _ h => h) (Or.inl ⟨by rfl, fun w hSw => by go_simp⟩) hS ?_
   simp only [Act.put, List.getElem_toArray, List.getElem_cons_succ, List.getElem_cons_zero, List.setIfInBounds_toArray, List.set_cons_zero, List.set_cons_succ]
   refine wpAnyH_take (i := 1) (v := .int .i64 (i : Int)) rfl (by kernel_rfl) (by kernel_rfl) (by kernel_rfl) (fun _ _ _ h => h) (Or.inl ⟨by rfl, fun w hSw => by go_simp⟩) hS ?_
   simp only [Act.put, List.getElem_toArray, List.getElem_cons_succ, List.getElem_cons_zero, List.setIfInBounds_toArray, List.set_cons_zero, List.set_cons_succ]
   refine wpAnyH_take (i := 2) (v := .slice (some ⟨b1, o1, none⟩) l.length lc) rfl (by kernel_rfl) (by kernel_rfl) (by kernel_rfl) (fun _ _ _ h => h) (Or.inl ⟨by rfl, fun w hSw => by go_simp⟩) hS ?_
   simp only [Act.put, List.getElem_toArray, List.getElem_cons_succ, List.getElem_cons_zero, List.setIfInBounds_toArray, List.set_cons_zero, List.set_cons_succ]
   refine wpAnyH_take (i := 3) (v := .int .i64 (i : Int)) rfl (by kernel_rfl) (by kernel_rfl) (by kernel_rfl) (fun _ _ _ h => h) (Or.inl ⟨by rfl, fun w hSw => by go_simp⟩) hS ?_
   simp only [Act.put, List.getElem_toArray, List.getElem_cons_succ, List.getElem_cons_zero, List.setIfInBounds_toArray, List.set_cons_zero, List.set_cons_succ]
   refine wpAnyH_take (i := 4) (v := .int .i64 (q : Int)) rfl (by kernel_rfl) (by kernel_rfl) (by kernel_rfl) (fun _ _ _ h => h) (Or.inl ⟨by rfl, fun w hSw => by go_simp⟩) hS ?_
   simp only [Act.put, List.getElem_toArray, List.getElem_cons_succ, List.getElem_cons_zero, List.setIfInBounds_toArray, List.set_cons_zero, List.set_cons_succ]
   refine wpAnyH_take (i := 5) (v := .int .i64 (p : Int)) rfl (by kernel_rfl) (by kernel_rfl) (by kernel_rfl) (fun _ _ _ h => h) (Or.inl ⟨by rfl, fun w hSw => by go_simp⟩) hS ?_
   simp only [Act.put, List.getElem_toArray, List.getElem_cons_succ, List.getElem_cons_zero, List.setIfInBounds_toArray, List.set_cons_zero, List.set_cons_succ]
   refine wpAnyH_take (i := 6) (v := .pointer (some ⟨b1, o1 + p, none⟩)) rfl (by kernel_rfl) (by kernel_rfl) (by kernel_rfl) (fun _ _ _ h => h) (Or.inl ⟨by rfl, fun w hSw => by go_simp⟩) hS ?_
   simp only [Act.put, List.getElem_toArray, List.getElem_cons_succ, List.getElem_cons_zero, List.setIfInBounds_toArray, List.set_cons_zero, List.set_cons_succ]
   refine wpAnyH_take (i := 7) (v := .int .i64 x) rfl (by kernel_rfl) (by kernel_rfl) (by kernel_rfl) (fun _ _ _ h => h) (Or.inl ⟨by rfl, fun w hSw => by have r1 := HQ1.out w hSw; go_simp⟩) hS ?_
   simp only [Act.put, List.getElem_toArray, List.getElem_cons_succ, List.getElem_cons_zero, List.setIfInBounds_toArray, List.set_cons_zero, List.set_cons_succ]
   refine wpAnyH_take (i := 8) (v := linV b) rfl (by kernel_rfl) (by kernel_rfl) (by kernel_rfl) (fun _ _ _ h => h) (Or.inl ⟨by rfl, fun w hSw => by go_simp⟩) hS ?_
   simp only [Act.put, List.getElem_toArray, List.getElem_cons_succ, List.getElem_cons_zero, List.setIfInBounds_toArray, List.set_cons_zero, List.set_cons_succ]
   refine wpAnyH_take (i := 9) (v := .slice (some ⟨b1, o1, none⟩) l.length lc) rfl (by kernel_rfl) (by kernel_rfl) (by kernel_rfl) (fun _ _ _ h => h) (Or.inl ⟨by rfl, fun w hSw => by go_simp⟩) hS ?_
   simp only [Act.put, List.getElem_toArray, List.getElem_cons_succ, List.getElem_cons_zero, List.setIfInBounds_toArray, List.set_cons_zero, List.set_cons_succ]
   refine wpAnyH_take (i := 10) (v := .int .i64 (i : Int)) rfl (by kernel_rfl) (by kernel_rfl) (by kernel_rfl) (fun _ _ _ h => h) (Or.inl ⟨by rfl, fun w hSw => by go_simp⟩) hS ?_
   simp only [Act.put, List.getElem_toArray, List.getElem_cons_succ, List.getElem_cons_zero, List.setIfInBounds_toArray, List.set_cons_zero, List.set_cons_succ]
   refine wpAnyH_take (i := 11) (v := .int .i64 (i : Int)) rfl (by kernel_rfl) (by kernel_rfl) (by kernel_rfl) (fun _ _ _ h => h) (Or.inl ⟨by rfl, fun w hSw => by go_simp⟩) hS ?_
   simp only [Act.put, List.getElem_toArray, List.getElem_cons_succ, List.getElem_cons_zero, List.setIfInBounds_toArray, List.set_cons_zero, List.set_cons_succ]
   refine wpAnyH_take (i := 12) (v := .int .i64 (q : Int)) rfl (by kernel_rfl) (by kernel_rfl) (by kernel_rfl) (fun _ _ _ h => h) (Or.inl ⟨by rfl, fun w hSw => by go_simp⟩) hS ?_
   simp only [Act.put, List.getElem_toArray, List.getElem_cons_succ, List.getElem_cons_zero, List.setIfInBounds_toArray, List.set_cons_zero, List.set_cons_succ]
   refine wpAnyH_take (i := 13) (v := .int .i64 (p : Int)) rfl (by kernel_rfl) (by kernel_rfl) (by kernel_rfl) (fun _ _ _ h => h) (Or.inl ⟨by rfl, fun w hSw => by go_simp⟩) hS ?_
   simp only [Act.put, List.getElem_toArray, List.getElem_cons_succ, List.getElem_cons_zero, List.setIfInBounds_toArray, List.set_cons_zero, List.set_cons_succ]
   refine wpAnyH_take (i := 14) (v := .slice (some ⟨b1, o1 + i, none⟩) q (lc - i)) rfl (by kernel_rfl) (by kernel_rfl) (by kernel_rfl) (fun _ _ _ h => h) (Or.inl ⟨by rfl, fun w hSw => by go_simp⟩) hS ?_
   simp only [Act.put, List.getElem_toArray, List.getElem_cons_succ, List.getElem_cons_zero, List.setIfInBounds_toArray, List.set_cons_zero, List.set_cons_succ]
   refine wpAnyH_ready (rs := [15]) (by kernel_rfl) (by simp) ?_
   refine AllReadyH.cons rfl (fun K hK => ?_) AllReadyH.nil
   go_simp
   refine (HK.out _ _ hS).mono ?_
   rintro e w5 ⟨rfl, hw5⟩
   subst hw5
   obtain ⟨⟨v5, y5⟩, z5⟩ := HCL.out _ HD
   refine hK.out _ _ hS (fun hS5 => ?_)
   clear hK K
   try simp only [Act.put, List.getElem_toArray, List.getElem_cons_succ, List.getElem_cons_zero, List.setIfInBounds_toArray, List.set_cons_zero, List.set_cons_succ]
   refine wpAnyH_take (i := 16) (v := .int .i64 (wrap64 (x - fo))) rfl (by kernel_rfl) (by kernel_rfl) (by kernel_rfl) (fun _ _ _ h => h) (Or.inl ⟨by rfl, fun w hSw => by go_simp; exact wrap_is _⟩) hS5 ?_
   simp only [Act.put, List.getElem_toArray, List.getElem_cons_succ, List.getElem_cons_zero, List.setIfInBounds_toArray, List.set_cons_zero, List.set_cons_succ]
   refine wpAnyH_take (i := 17) (v := .pointer (some ⟨w.heap.size, i, none⟩)) rfl (by kernel_rfl) (by kernel_rfl) (by kernel_rfl) (fun _ _ _ h => h) (Or.inl ⟨by rfl, fun w hSw => by go_simp⟩) hS5 ?_
   simp only [Act.put, List.getElem_toArray, List.getElem_cons_succ, List.getElem_cons_zero, List.setIfInBounds_toArray, List.set_cons_zero, List.set_cons_succ]
   refine wpAnyH_ready (rs := [18]) (by kernel_rfl) (by simp) ?_
   refine AllReadyH.cons rfl (fun K hK => ?_) AllReadyH.nil
   go_simp
   refine hK.out _ _ HNX.out.below (fun hS6 => ?_)
   clear hK K
   refine wpAnyH_done (by kernel_rfl) ?_ _
   go_wp2_with fail
   go_roundw
   case rel => exact ⟨i + 1, by omega, by go_num, HNX.out⟩
   case measure => simp [intOf]; omega
  ·have hin : i = n := by omega
   subst hin
   have HI : Hid (Made w (some ⟨w.heap.size, 0, none⟩) i L wr) := Made.of_fill (by rw [HLL.out]; exact HA.out) (by rw [HLL.out]; omega) (by rw [HLL.out]; omega) HRG.out
   clear HA
   go_wp2_with fail
   go_ret
   exact ⟨_, _, by rw [HLL.out]; rfl, HI.out⟩
theorem qfixed_spec (o : Int) (l : List Int) (la : Option Addr) (lc : Nat) (hlc : l.length ≤ lc) (w : World) (hl : IntsAt w la l) : Calls Tryz.prog 177 #[.int .i64 o, .slice la l.length lc] w (RetM (fixR o l) w) := by
 have h1 := hl.len
 by_cases h1 : o < 0
 ·have HR : Hid (fixR o l = none) := by show _ = _; unfold fixR; rw [if_neg (by omega)]
  go_enter Tryz.func177, Tryz.ntmps177
  go_wp2_with fail
  go_ret2
  exact retM_none HR.out rfl (Below.refl _ _)
 ·skip
  by_cases h2 : 4 < o
  ·have HR : Hid (fixR o l = none) := by show _ = _; unfold fixR; rw [if_neg (by omega)]
   go_enter Tryz.func177, Tryz.ntmps177
   go_wp2_with fail
   go_ret2
   exact retM_none HR.out rfl (Below.refl _ _)
  ·skip
   by_cases h3 : (l.length : Int) < o
   ·have HR : Hid (fixR o l = none) := by show _ = _; unfold fixR; rw [if_neg (by omega)]
    go_enter Tryz.func177, Tryz.ntmps177
    go_wp2_with fail
    go_ret2
    exact retM_none HR.out rfl (Below.refl _ _)
   ·skip
    obtain ⟨o', rfl⟩ : ∃ o' : Nat, o = (o' : Int) := ⟨o.toNat, by omega⟩
    have ho4 : o' ≤ 4 := by omega
    have hol : o' ≤ l.length := by omega
    have HWL : Hid ((wF o').length = o') := wF_len o' ho4
    have HR : Hid (fixR (o' : Int) l = some (leftN (wF o') 0 l (l.length - o'))) := by
     show _ = _
     unfold fixR; rw [if_pos (by omega)]; rfl
    have kw := qcoefs_spec o' ho4 w
    have HL : Hid (IntsAt w la l) := hl
    clear hl
    go_enter Tryz.func177, Tryz.ntmps177
    go_wp2_with fail
    refine kw.mono ?_
    rintro e w2 ⟨ca, cc, rfl, hc, hb2⟩
    have km := qlinear_spec (wF o') ca cc 0 w2 hc
    rw [HWL.out] at km ⊢
    have HB2 : Hid (Below w.heap.size w w2) := hb2
    clear kw hb2 hc
    go_wp2_with fail
    refine km.mono ?_
    rintro e w3 ⟨b, rfl, hlin, hb3⟩
    have HB3 : Hid (Below w.heap.size w w3) := HB2.out.trans (hb3.mono HB2.out.size)
    have kl := qleft_spec (wF o') l ca la cc lc 0 b (by omega) (by rw [HWL.out]; exact hol) hlc w3 hlin (HL.out.below HB3.out)
    rw [HWL.out] at kl
    clear km hb3 hlin HB2
    generalize leftN (wF o') 0 l (l.length - o') = R at *
    go_wp2_with fail
    refine kl.mono ?_
    rintro e w4 ⟨ao, ac, rfl, hi4⟩
    have HI : Hid (Made w ao ac R w4) := hi4.up HB3.out
    clear hi4 kl
    go_wp2_with fail
    go_ret2
    exact retM_some HR.out rfl HI.out
theorem qlpc_spec (C l : List Int) (sh : Int) (ca la : Option Addr) (cc lc : Nat) (hlc : l.length ≤ lc) (w : World) (hC : IntsAt w ca C) (hl : IntsAt w la l) : Calls Tryz.prog 178 #[.slice ca C.length cc, .int .i64 sh, .slice la l.length lc] w (RetM (lpcR C sh l) w) := by
 have km := qmay_spec C sh ca cc w hC
 have h1 := hC.len
 have h2 := hl.len
 have HC : Hid (IntsAt w ca C) := hC
 have HL : Hid (IntsAt w la l) := hl
 clear hC hl
 cases hm : mayB C sh with
 | false =>
  have HR : Hid (lpcR C sh l = none) := by show _ = _; unfold lpcR; rw [hm, if_neg (fun h => by cases h.1)]
  rw [hm] at km
  clear hm
  go_enter Tryz.func178, Tryz.ntmps178
  go_wp2_with fail
  refine km.mono ?_
  rintro e w2 ⟨rfl, rfl⟩
  go_wp2_with fail
  go_ret2
  exact retM_none HR.out rfl (Below.refl _ _)
 | true =>
  obtain ⟨m1, m2, m3, m4⟩ := (mayB_iff C sh).1 hm
  obtain ⟨s', rfl⟩ : ∃ s' : Nat, sh = (s' : Int) := ⟨sh.toNat, by omega⟩
  have hs31 : s' ≤ 31 := by omega
  by_cases hk : C.length ≤ l.length
  ·have hk2 : (C.length : Int) ≤ (l.length : Int) := by omega
   have HR : Hid (lpcR C (s' : Int) l = some (leftN C s' l (l.length - C.length))) := by show _ = _; unfold lpcR; rw [hm, if_pos ⟨rfl, hk⟩]; rfl
   skip
   rw [hm] at km
   clear hm
   go_enter Tryz.func178, Tryz.ntmps178
   go_wp2_with fail
   refine km.mono ?_
   rintro e w2 ⟨rfl, rfl⟩
   have kn := qlinear_spec C ca cc s' w2 HC.out
   clear km
   go_wp2_with fail
   refine kn.mono ?_
   rintro e w3 ⟨b, rfl, hlin, hb3⟩
   have HB3 : Hid (Below w2.heap.size w2 w3) := hb3
   have kl := qleft_spec C l ca la cc lc s' b hs31 hk hlc w3 hlin (HL.out.below HB3.out)
   generalize leftN C s' l (l.length - C.length) = R at *
   clear kn hb3 hlin
   go_wp2_with fail
   refine kl.mono ?_
   rintro e w4 ⟨ao, ac, rfl, hi4⟩
   have HI : Hid (Made w2 ao ac R w4) := hi4.up HB3.out
   clear hi4 kl
   go_wp2_with fail
   go_ret2
   exact retM_some HR.out rfl HI.out
  ·have HR : Hid (lpcR C (s' : Int) l = none) := by show _ = _; unfold lpcR; rw [if_neg (fun h => hk h.2)]
   have hk2 : (l.length : Int) < (C.length : Int) := by omega
   rw [hm] at km
   clear hm
   go_enter Tryz.func178, Tryz.ntmps178
   go_wp2_with fail
   refine km.mono ?_
   rintro e w2 ⟨rfl, rfl⟩
   go_wp2_with fail
   go_ret2
   exact retM_none HR.out rfl (Below.refl _ _)
end Go.Proofs.YthgpleelpeacjaaGreatDoor
