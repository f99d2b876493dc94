/- Own text. -/
import Derived.Test.YthgpleelpeacjaaGreatDoorF19
import Derived.Handy
import Derived.Deep.WholeRow
import Derived.Laws.ResultCell
import Derived.Deep.Cut
import Derived.Laws.BytesArg
import Derived.ProofKit
import Derived.OpenShut
import Derived.Deep.Slices
import Derived.Lib.SmallJoins
import Derived.ChangeSlices
import Derived.Deep.Matrix
set_option linter.unusedSimpArgs false
set_option linter.unusedVariables false
set_option maxRecDepth 20000
set_option maxHeartbeats 12800000
namespace Go.Proofs.YthgpleelpeacjaaGreatDoor
open Go.RowKit
structure Fm where
 v : Bool
 num : Int
 size : Int
 sc : Int
 rc : Int
 wc : Int
 mo : Int
 S : List Sb
structure Inf where
 rate : Int
 ch : Int
 wd : Int
abbrev Sb0 : Sb := ⟨0, 0, 0, 0, 0, [], ⟨0, 0, [], []⟩⟩
def sizN (c : Int) : Int := if c = 1 then 192 else if 2 ≤ c ∧ c ≤ 5 then 576 * 2 ^ (c - 2).toNat else if 8 ≤ c ∧ c ≤ 15 then 256 * 2 ^ (c - 8).toNat else 0
def ratN (c : Int) : Int := [0, 88200, 176400, 192000, 8000, 16000, 22050, 24000, 32000, 44100, 48000, 96000].getD c.toNat 0
def widN (c : Int) : Int := [0, 8, 12, 0, 16, 20, 24, 0].getD c.toNat 0
def wdA (i : Inf) (mo : Int) (c : Nat) : Int := if (c = 1 ∧ (mo = 1 ∨ mo = 3)) ∨ (c = 0 ∧ mo = 2) then i.wd + 1 else i.wd
abbrev mayF (i : Inf) : Prop := (1 ≤ i.ch ∧ i.ch ≤ 8) ∧ (4 ≤ i.wd ∧ i.wd ≤ 24) ∧ 1 ≤ i.rate
abbrev saysZ (f : Fm) : Prop := (1 ≤ f.sc ∧ f.sc ≤ 15) ∧ (sizN f.sc = f.size ∨ (f.sc = 6 ∧ f.size ≤ 256) ∨ f.sc = 7)
abbrev saysR (f : Fm) (i : Inf) : Prop := f.rc = 0 ∨ ((1 ≤ f.rc ∧ f.rc ≤ 11) ∧ ratN f.rc = i.rate) ∨ (f.rc = 12 ∧ i.rate % 1000 = 0 ∧ i.rate ≤ 255000) ∨ (f.rc = 13 ∧ i.rate ≤ 65535) ∨ (f.rc = 14 ∧ i.rate % 10 = 0 ∧ i.rate ≤ 655350)
abbrev saysW (f : Fm) (i : Inf) : Prop := f.wc = 0 ∨ ((1 ≤ f.wc ∧ f.wc ≤ 6) ∧ ¬ f.wc = 3 ∧ widN f.wc = i.wd)
abbrev okH (f : Fm) (i : Inf) : Prop := mayF i ∧ (1 ≤ f.size ∧ f.size ≤ 4608) ∧ (0 ≤ f.num ∧ f.num ≤ (if f.v then 68719476735 else 2147483647)) ∧ (0 ≤ f.mo ∧ f.mo ≤ 3 ∧ (f.mo = 0 ∨ i.ch = 2)) ∧ saysZ f ∧ saysR f i ∧ saysW f i
abbrev okC (f : Fm) (i : Inf) : Prop := okH f i ∧ (f.S.length : Int) = i.ch ∧ ∀ c, c < f.S.length → subOk (f.S.getD c Sb0) f.size (wdA i f.mo c)
structure HDS (w : World) (x : Nat) (s : ByteArray) (a : Nat) (wx : World) : Prop where
 zb : wx.heap[w.heap.size]? = some (.cells (subC ⟨0, 0, 0, 0, 0, [], R0⟩ none 0 none 0 none 0) 27 (0, 0))
 rd : Rd wx x s a
 st : Stays (only x) w wx
 hx : x < w.heap.size
def IntTab (b : Nat) (T : List Int) (w : World) : Prop := ∀ j, j < T.length → w.cell? ⟨b, j, none⟩ = some (.int .i64 (T.getD j 0))
theorem IntTab.below {b : Nat} {T : List Int} {w w' : World} (h : IntTab b T w) (hb : Below w.heap.size w w') : IntTab b T w' := fun j hj => by
 have h1 := h j hj
 rw [← h1]; exact World.cell?_of_block (w := w) (hb.block _ (lt_cell h1))
abbrev sizT : List Int := [0, 192, 576, 1152, 2304, 4608, 0, 0, 256, 512, 1024, 2048, 4096, 8192, 16384, 32768]
abbrev ratT : List Int := [0, 88200, 176400, 192000, 8000, 16000, 22050, 24000, 32000, 44100, 48000, 96000, 0, 0, 0, 0]
abbrev widT : List Int := [0, 8, 12, 0, 16, 20, 24, 0]
structure Lay (w : World) : Prop where
 z : IntTab 0 sizT w
 r : IntTab 1 ratT w
 d : IntTab 2 widT w
 u : True
theorem Lay.below {w w' : World} (h : Lay w) (hb : Below w.heap.size w w') : Lay w' := ⟨h.z.below hb, h.r.below hb, h.d.below hb, trivial⟩
def szb (c : Int) : Int := if c = 6 then 1 else if c = 7 then 2 else 0
def rtb (c : Int) : Int := if c = 12 then 1 else if c = 13 then 2 else if c = 14 then 2 else 0
def rtu (c : Int) : Int := if c = 12 then 1000 else if c = 14 then 10 else 1
theorem szb_all (c : Int) : (c = 6 ∧ szb c = 1) ∨ (c = 7 ∧ szb c = 2) ∨ (¬ c = 6 ∧ ¬ c = 7 ∧ szb c = 0) := by
 unfold szb
 by_cases a : c = 6
 ·exact .inl ⟨a, if_pos a⟩
 ·by_cases b : c = 7
  ·exact .inr (.inl ⟨b, by rw [if_neg a, if_pos b]⟩)
  ·exact .inr (.inr ⟨a, b, by rw [if_neg a, if_neg b]⟩)
theorem rtb_all (c : Int) : (c = 12 ∧ rtb c = 1 ∧ rtu c = 1000) ∨ (c = 13 ∧ rtb c = 2 ∧ rtu c = 1) ∨ (c = 14 ∧ rtb c = 2 ∧ rtu c = 10) ∨ (¬ c = 12 ∧ ¬ c = 13 ∧ ¬ c = 14 ∧ rtb c = 0 ∧ rtu c = 1) := by
 unfold rtb rtu
 by_cases a : c = 12
 ·exact .inl ⟨a, if_pos a, if_pos a⟩
 ·by_cases b : c = 13
  ·exact .inr (.inl ⟨b, by rw [if_neg a, if_pos b], by rw [if_neg a, if_neg (by omega)]⟩)
  ·by_cases d : c = 14
   ·exact .inr (.inr (.inl ⟨d, by rw [if_neg a, if_neg b, if_pos d], by rw [if_neg a, if_pos d]⟩))
   ·exact .inr (.inr (.inr ⟨a, b, d, by rw [if_neg a, if_neg b, if_neg d], by rw [if_neg a, if_neg d]⟩))
theorem f_szb (c : Int) (w : World) : Calls Tryz.prog 101 #[.int .i64 c] w fun e w' => e = .returned (.int .i64 (szb c)) ∧ w' = w := by
 by_cases g6 : c = 6
 ·have HV : Hid (szb c = 1) := by show _ = _; unfold szb; omega
  rw [HV.out]
  have hk6 : (c == 6) = true := by rw [beq_iff_eq]; omega
  have hk7 : (c == 7) = false := by rw [beq_eq_false_iff_ne]; omega
  clear HV
  go_enter Tryz.func101, Tryz.ntmps101
  go_wp2_with fail
  go_ret
  exact ⟨rfl, rfl⟩
 ·skip
  by_cases g7 : c = 7
  ·have HV : Hid (szb c = 2) := by show _ = _; unfold szb; omega
   rw [HV.out]
   have hk6 : (c == 6) = false := by rw [beq_eq_false_iff_ne]; omega
   have hk7 : (c == 7) = true := by rw [beq_iff_eq]; omega
   clear HV
   go_enter Tryz.func101, Tryz.ntmps101
   go_wp2_with fail
   go_ret
   exact ⟨rfl, rfl⟩
  ·skip
   have HV : Hid (szb c = 0) := by show _ = _; unfold szb; omega
   rw [HV.out]
   have hk6 : (c == 6) = false := by rw [beq_eq_false_iff_ne]; omega
   have hk7 : (c == 7) = false := by rw [beq_eq_false_iff_ne]; omega
   clear HV
   go_enter Tryz.func101, Tryz.ntmps101
   go_wp2_with fail
   go_ret
   exact ⟨rfl, rfl⟩
theorem f_rtb (c : Int) (w : World) : Calls Tryz.prog 102 #[.int .i64 c] w fun e w' => e = .returned (.int .i64 (rtb c)) ∧ w' = w := by
 by_cases g12 : c = 12
 ·have HV : Hid (rtb c = 1) := by show _ = _; unfold rtb; omega
  rw [HV.out]
  have hk12 : (c == 12) = true := by rw [beq_iff_eq]; omega
  have hk13 : (c == 13) = false := by rw [beq_eq_false_iff_ne]; omega
  have hk14 : (c == 14) = false := by rw [beq_eq_false_iff_ne]; omega
  clear HV
  go_enter Tryz.func102, Tryz.ntmps102
  go_wp2_with fail
  go_ret
  exact ⟨rfl, rfl⟩
 ·skip
  by_cases g13 : c = 13
  ·have HV : Hid (rtb c = 2) := by show _ = _; unfold rtb; omega
   rw [HV.out]
   have hk12 : (c == 12) = false := by rw [beq_eq_false_iff_ne]; omega
   have hk13 : (c == 13) = true := by rw [beq_iff_eq]; omega
   have hk14 : (c == 14) = false := by rw [beq_eq_false_iff_ne]; omega
   clear HV
   go_enter Tryz.func102, Tryz.ntmps102
   go_wp2_with fail
   go_ret
   exact ⟨rfl, rfl⟩
  ·skip
   by_cases g14 : c = 14
   ·have HV : Hid (rtb c = 2) := by show _ = _; unfold rtb; omega
    rw [HV.out]
    have hk12 : (c == 12) = false := by rw [beq_eq_false_iff_ne]; omega
    have hk13 : (c == 13) = false := by rw [beq_eq_false_iff_ne]; omega
    have hk14 : (c == 14) = true := by rw [beq_iff_eq]; omega
    clear HV
    go_enter Tryz.func102, Tryz.ntmps102
    go_wp2_with fail
    go_ret
    exact ⟨rfl, rfl⟩
   ·skip
    have HV : Hid (rtb c = 0) := by show _ = _; unfold rtb; omega
    rw [HV.out]
    have hk12 : (c == 12) = false := by rw [beq_eq_false_iff_ne]; omega
    have hk13 : (c == 13) = false := by rw [beq_eq_false_iff_ne]; omega
    have hk14 : (c == 14) = false := by rw [beq_eq_false_iff_ne]; omega
    clear HV
    go_enter Tryz.func102, Tryz.ntmps102
    go_wp2_with fail
    go_ret
    exact ⟨rfl, rfl⟩
theorem f_rtu (c : Int) (w : World) : Calls Tryz.prog 103 #[.int .i64 c] w fun e w' => e = .returned (.int .i64 (rtu c)) ∧ w' = w := by
 by_cases g12 : c = 12
 ·have HV : Hid (rtu c = 1000) := by show _ = _; unfold rtu; omega
  rw [HV.out]
  have hk12 : (c == 12) = true := by rw [beq_iff_eq]; omega
  have hk14 : (c == 14) = false := by rw [beq_eq_false_iff_ne]; omega
  clear HV
  go_enter Tryz.func103, Tryz.ntmps103
  go_wp2_with fail
  go_ret
  exact ⟨rfl, rfl⟩
 ·skip
  by_cases g14 : c = 14
  ·have HV : Hid (rtu c = 10) := by show _ = _; unfold rtu; omega
   rw [HV.out]
   have hk12 : (c == 12) = false := by rw [beq_eq_false_iff_ne]; omega
   have hk14 : (c == 14) = true := by rw [beq_iff_eq]; omega
   clear HV
   go_enter Tryz.func103, Tryz.ntmps103
   go_wp2_with fail
   go_ret
   exact ⟨rfl, rfl⟩
  ·skip
   have HV : Hid (rtu c = 1) := by show _ = _; unfold rtu; omega
   rw [HV.out]
   have hk12 : (c == 12) = false := by rw [beq_eq_false_iff_ne]; omega
   have hk14 : (c == 14) = false := by rw [beq_eq_false_iff_ne]; omega
   clear HV
   go_enter Tryz.func103, Tryz.ntmps103
   go_wp2_with fail
   go_ret
   exact ⟨rfl, rfl⟩
def sizS (c b : Int) : Int := if c = 6 ∨ c = 7 then b + 1 else sizT.getD c.toNat 0
def ratS (c b st : Int) : Int := if c = 0 then st else if c = 12 ∨ c = 13 ∨ c = 14 then b * rtu c else ratT.getD c.toNat 0
def widS (c st : Int) : Int := if c = 0 then st else widT.getD c.toNat 0
theorem tab_rng (T : List Int) (h : ∀ x ∈ T, -9223372036854775808 ≤ x ∧ x ≤ 9223372036854775807) (j : Nat) : -9223372036854775808 ≤ T.getD j 0 ∧ T.getD j 0 ≤ 9223372036854775807 := by
 rw [List.getD_eq_getElem?_getD]
 by_cases hj : j < T.length
 ·rw [List.getElem?_eq_getElem hj]; exact h _ (List.getElem_mem hj)
 ·rw [List.getElem?_eq_none (by omega)]; exact ⟨by decide, by decide⟩
theorem sizT_rng (j : Nat) : -9223372036854775808 ≤ sizT.getD j 0 ∧ sizT.getD j 0 ≤ 9223372036854775807 := tab_rng _ (by decide) j
theorem ratT_rng (j : Nat) : -9223372036854775808 ≤ ratT.getD j 0 ∧ ratT.getD j 0 ≤ 9223372036854775807 := tab_rng _ (by decide) j
theorem widT_rng (j : Nat) : -9223372036854775808 ≤ widT.getD j 0 ∧ widT.getD j 0 ≤ 9223372036854775807 := tab_rng _ (by decide) j
theorem f_sizS (c b : Int) (hc : 0 ≤ c ∧ c < 16) (hb : 0 ≤ b ∧ b ≤ 70000) (w : World) (hL : Lay w) : Calls Tryz.prog 114 #[.int .i64 c, .int .i64 b] w fun e w' => e = .returned (.int .i64 (sizS c b)) ∧ w' = w := by
 have kz := f_szb c
 rcases szb_all c with ⟨g, hz⟩ | ⟨g, hz⟩ | ⟨g6, g7, hz⟩
 ·have HV : Hid (sizS c b = b + 1) := by show _ = _; unfold sizS; rw [if_pos (by omega)]
  rw [HV.out]
  rw [hz] at kz
  clear HV hL hz g
  go_enter Tryz.func114, Tryz.ntmps114
  go_wp2_with fail
  refine (kz _).mono ?_
  rintro e wc ⟨rfl, hwc⟩
  subst hwc
  go_wp2_with fail
  go_ret
  exact ⟨by first | rfl | go_num | simp, rfl⟩
 ·have HV : Hid (sizS c b = b + 1) := by show _ = _; unfold sizS; rw [if_pos (by omega)]
  rw [HV.out]
  rw [hz] at kz
  clear HV hL hz g
  go_enter Tryz.func114, Tryz.ntmps114
  go_wp2_with fail
  refine (kz _).mono ?_
  rintro e wc ⟨rfl, hwc⟩
  subst hwc
  go_wp2_with fail
  go_ret
  exact ⟨by first | rfl | go_num | simp, rfl⟩
 ·have HV : Hid (sizS c b = sizT.getD c.toNat 0) := by show _ = _; unfold sizS; rw [if_neg (by omega)]
  rw [HV.out]
  rw [hz] at kz
  clear HV hz
  obtain ⟨j, rfl⟩ : ∃ j : Nat, c = j := ⟨c.toNat, by omega⟩
  rw [Int.toNat_natCast]
  have hcell := hL.z j (by show j < 16; omega)
  have hrg : -9223372036854775808 ≤ sizT.getD j 0 ∧ sizT.getD j 0 ≤ 9223372036854775807 := sizT_rng j
  generalize sizT.getD j 0 = v at *
  clear hL
  go_enter Tryz.func114, Tryz.ntmps114
  go_wp2_with fail
  refine (kz _).mono ?_
  rintro e wc ⟨rfl, hwc⟩
  subst hwc
  go_wp2_with fail
  go_ret
  exact ⟨rfl, rfl⟩
theorem f_ratS (c b st : Int) (hc : 0 ≤ c ∧ c < 16) (hb : 0 ≤ b ∧ b ≤ 9223372036854775807) (hm : b * rtu c ≤ 9223372036854775807) (w : World) (hL : Lay w) : Calls Tryz.prog 115 #[.int .i64 c, .int .i64 b, .int .i64 st] w fun e w' => e = .returned (.int .i64 (ratS c b st)) ∧ w' = w := by
 have kz := f_rtb c
 have ku := f_rtu c
 by_cases g0 : c = 0
 ·have HV : Hid (ratS c b st = st) := by show _ = _; unfold ratS; rw [if_pos g0]
  rw [HV.out]
  have hk0 : (c == 0) = true := by rw [beq_iff_eq]; exact g0
  clear HV hL kz ku g0
  go_enter Tryz.func115, Tryz.ntmps115
  go_wp2_with fail
  go_ret
  exact ⟨rfl, rfl⟩
 ·rcases rtb_all c with ⟨g, hz, hu⟩ | ⟨g, hz, hu⟩ | ⟨g, hz, hu⟩ | ⟨g1, g2, g3, hz, hu⟩
  ·have HV : Hid (ratS c b st = b * rtu c) := by show _ = _; unfold ratS; rw [if_neg g0, if_pos (by omega)]
   rw [HV.out]
   have hk0 : (c == 0) = false := by rw [beq_eq_false_iff_ne]; exact g0
   rw [hz] at kz
   rw [hu] at ku hm ⊢
   clear HV hL hz hu g0 g
   go_enter Tryz.func115, Tryz.ntmps115
   go_wp2_with fail
   refine (kz _).mono ?_
   rintro e wc ⟨rfl, hwc⟩
   subst hwc
   go_wp2_with fail
   refine (ku _).mono ?_
   rintro e wc ⟨rfl, hwc⟩
   subst hwc
   go_wp2_with fail
   go_ret
   exact ⟨by first | rfl | go_num | simp, rfl⟩
  ·have HV : Hid (ratS c b st = b * rtu c) := by show _ = _; unfold ratS; rw [if_neg g0, if_pos (by omega)]
   rw [HV.out]
   have hk0 : (c == 0) = false := by rw [beq_eq_false_iff_ne]; exact g0
   rw [hz] at kz
   rw [hu] at ku hm ⊢
   clear HV hL hz hu g0 g
   go_enter Tryz.func115, Tryz.ntmps115
   go_wp2_with fail
   refine (kz _).mono ?_
   rintro e wc ⟨rfl, hwc⟩
   subst hwc
   go_wp2_with fail
   refine (ku _).mono ?_
   rintro e wc ⟨rfl, hwc⟩
   subst hwc
   go_wp2_with fail
   go_ret
   exact ⟨by first | rfl | go_num | simp, rfl⟩
  ·have HV : Hid (ratS c b st = b * rtu c) := by show _ = _; unfold ratS; rw [if_neg g0, if_pos (by omega)]
   rw [HV.out]
   have hk0 : (c == 0) = false := by rw [beq_eq_false_iff_ne]; exact g0
   rw [hz] at kz
   rw [hu] at ku hm ⊢
   clear HV hL hz hu g0 g
   go_enter Tryz.func115, Tryz.ntmps115
   go_wp2_with fail
   refine (kz _).mono ?_
   rintro e wc ⟨rfl, hwc⟩
   subst hwc
   go_wp2_with fail
   refine (ku _).mono ?_
   rintro e wc ⟨rfl, hwc⟩
   subst hwc
   go_wp2_with fail
   go_ret
   exact ⟨by first | rfl | go_num | simp, rfl⟩
  ·have HV : Hid (ratS c b st = ratT.getD c.toNat 0) := by show _ = _; unfold ratS; rw [if_neg g0, if_neg (by omega)]
   rw [HV.out]
   have hk0 : (c == 0) = false := by rw [beq_eq_false_iff_ne]; exact g0
   rw [hz] at kz
   clear HV hz hu ku g0 hm
   obtain ⟨j, rfl⟩ : ∃ j : Nat, c = j := ⟨c.toNat, by omega⟩
   rw [Int.toNat_natCast]
   have hcell := hL.r j (by show j < 16; omega)
   have hrg : -9223372036854775808 ≤ ratT.getD j 0 ∧ ratT.getD j 0 ≤ 9223372036854775807 := ratT_rng j
   generalize ratT.getD j 0 = v at *
   clear hL
   go_enter Tryz.func115, Tryz.ntmps115
   go_wp2_with fail
   refine (kz _).mono ?_
   rintro e wc ⟨rfl, hwc⟩
   subst hwc
   go_wp2_with fail
   go_ret
   exact ⟨rfl, rfl⟩
theorem f_widS (c st : Int) (hc : 0 ≤ c ∧ c < 8) (w : World) (hL : Lay w) : Calls Tryz.prog 116 #[.int .i64 c, .int .i64 st] w fun e w' => e = .returned (.int .i64 (widS c st)) ∧ w' = w := by
 by_cases g0 : c = 0
 ·have HV : Hid (widS c st = st) := by show _ = _; unfold widS; rw [if_pos g0]
  rw [HV.out]
  have hk0 : (c == 0) = true := by rw [beq_iff_eq]; exact g0
  clear HV hL g0
  go_enter Tryz.func116, Tryz.ntmps116
  go_wp2_with fail
  go_ret
  exact ⟨rfl, rfl⟩
 ·have HV : Hid (widS c st = widT.getD c.toNat 0) := by show _ = _; unfold widS; rw [if_neg g0]
  rw [HV.out]
  have hk0 : (c == 0) = false := by rw [beq_eq_false_iff_ne]; exact g0
  clear HV g0
  obtain ⟨j, rfl⟩ : ∃ j : Nat, c = j := ⟨c.toNat, by omega⟩
  rw [Int.toNat_natCast]
  have hcell := hL.d j (by show j < 8; omega)
  have hrg : -9223372036854775808 ≤ widT.getD j 0 ∧ widT.getD j 0 ≤ 9223372036854775807 := widT_rng j
  generalize widT.getD j 0 = v at *
  clear hL
  go_enter Tryz.func116, Tryz.ntmps116
  go_wp2_with fail
  go_ret
  exact ⟨rfl, rfl⟩
theorem f_isIn (c n : Int) (bb : Bool) (hbb : bb = true ↔ 0 ≤ c ∧ c < n) (w : World) : Calls Tryz.prog 168 #[.int .i64 c, .int .i64 n] w fun e w' => e = .returned (.bool bb) ∧ w' = w := by
 by_cases g0 : c < 0
 ·rw [bb_no hbb (by omega)]
  clear hbb
  go_enter Tryz.func168, Tryz.ntmps168
  go_wp2_with fail
  go_ret
  exact ⟨rfl, rfl⟩
 ·skip
  by_cases g1 : n ≤ c
  ·rw [bb_no hbb (by omega)]
   clear hbb
   have hb : decide (c < n) = false := decide_eq_false (by omega)
   go_enter Tryz.func168, Tryz.ntmps168
   go_wp2_with fail
   go_ret
   exact ⟨rfl, rfl⟩
  ·skip
   rw [bb_yes hbb (by omega)]
   clear hbb
   have hb : decide (c < n) = true := decide_eq_true (by omega)
   go_enter Tryz.func168, Tryz.ntmps168
   go_wp2_with fail
   go_ret
   exact ⟨rfl, rfl⟩
theorem f_hold1 (n : Int) (bb : Bool) (hbb : bb = true ↔ n < 256) (w : World) : Calls Tryz.prog 169 #[.int .i64 1, .int .i64 n] w fun e w' => e = .returned (.bool bb) ∧ w' = w := by
 have hd : decide (n < 256) = bb := by
  cases bb with
  | true => exact decide_eq_true (hbb.1 rfl)
  | false => exact decide_eq_false (fun h => Bool.noConfusion (hbb.2 h))
 clear hbb
 go_enter Tryz.func169, Tryz.ntmps169
 go_wp2_with fail
 go_ret
 exact ⟨by first | rfl | simp [hd], rfl⟩
theorem f_hold2 (n : Int) (bb : Bool) (hbb : bb = true ↔ n < 65536) (w : World) : Calls Tryz.prog 169 #[.int .i64 2, .int .i64 n] w fun e w' => e = .returned (.bool bb) ∧ w' = w := by
 have hd : decide (n < 65536) = bb := by
  cases bb with
  | true => exact decide_eq_true (hbb.1 rfl)
  | false => exact decide_eq_false (fun h => Bool.noConfusion (hbb.2 h))
 clear hbb
 go_enter Tryz.func169, Tryz.ntmps169
 go_wp2_with fail
 go_ret
 exact ⟨by first | rfl | simp [hd], rfl⟩
theorem f_hold0 (n : Int) (w : World) : Calls Tryz.prog 169 #[.int .i64 0, .int .i64 n] w fun e w' => e = .returned (.bool true) ∧ w' = w := by
 go_enter Tryz.func169, Tryz.ntmps169
 go_wp2_with fail
 go_ret
 exact ⟨rfl, rfl⟩
abbrev fmC (f : Fm) (so : Option Addr) (sk : Nat) : Array Value := #[.bool f.v, .int .i64 f.num, .int .i64 f.size, .int .i64 f.sc, .int .i64 f.rc, .int .i64 f.wc, .int .i64 f.mo, .slice so f.S.length sk]
abbrev fmV (f : Fm) (so : Option Addr) (sk : Nat) : Value := .agg (fmC f so sk)
def SubIn (w : World) (b o : Nat) (q : Sb) (ca : Option Addr) (cc : Nat) (pa : Option Addr) (pc : Nat) (ea : Option Addr) (ec : Nat) : Prop := w.cell? ⟨b, o, none⟩ = some (.int .i64 q.k) ∧ w.cell? ⟨b, o + 1, none⟩ = some (.int .i64 q.o) ∧ w.cell? ⟨b, o + 2, none⟩ = some (.int .i64 q.w) ∧ w.cell? ⟨b, o + 3, none⟩ = some (.int .i64 q.p) ∧ w.cell? ⟨b, o + 4, none⟩ = some (.int .i64 q.h) ∧ w.cell? ⟨b, o + 5, none⟩ = some (.slice ca q.C.length cc) ∧ w.cell? ⟨b, o + 6, none⟩ = some (.int .i64 q.R.m) ∧ w.cell? ⟨b, o + 7, none⟩ = some (.int .i64 q.R.o) ∧ w.cell? ⟨b, o + 8, none⟩ = some (.slice pa q.R.P.length pc) ∧ w.cell? ⟨b, o + 9, none⟩ = some (.slice ea q.R.E.length ec)
theorem SubIn.keep {w w' : World} {b o : Nat} {q : Sb} {ca : Option Addr} {cc : Nat} {pa : Option Addr} {pc : Nat} {ea : Option Addr} {ec : Nat} (h : SubIn w b o q ca cc pa pc ea ec) (hb : w'.heap[b]? = w.heap[b]?) : SubIn w' b o q ca cc pa pc ea ec := by
 have e : ∀ j, w'.cell? ⟨b, j, none⟩ = w.cell? ⟨b, j, none⟩ := fun j => World.cell?_of_block (w := w) hb
 unfold SubIn at h ⊢
 simp only [e]
 exact h
structure SubsAt (w : World) (so : Option Addr) (S : List Sb) : Prop where
 len : S.length ≤ 1759218604441
 lies : 0 < S.length → ∃ b off, so = some ⟨b, off, none⟩ ∧ ∀ c, c < S.length → ∃ ca cc pa pc ea ec, SubIn w b (off + c * 10) (S.getD c Sb0) ca cc pa pc ea ec ∧ SbAt w (S.getD c Sb0) ca pa ea ∧ ((S.getD c Sb0).C.length ≤ cc ∧ (ca = none → cc = 0))
theorem SubsAt.below {w w' : World} {so : Option Addr} {S : List Sb} (h : SubsAt w so S) (hb : Below w.heap.size w w') : SubsAt w' so S := by
 refine ⟨h.len, fun h0 => ?_⟩
 obtain ⟨b, off, e, hc⟩ := h.lies h0
 refine ⟨b, off, e, fun c hl => ?_⟩
 obtain ⟨ca, cc, pa, pc, ea, ec, h1, h2, h3⟩ := hc c hl
 exact ⟨ca, cc, pa, pc, ea, ec, h1.keep (hb.block _ (lt_cell h1.1)), h2.below hb, h3⟩
theorem fm_cells {w : World} {g : Nat} {f : Fm} {so : Option Addr} {sk : Nat} (h : w.heap[g]? = some (.cells (fmC f so sk) 41 (0, 0))) :
  w.cell? ⟨g, 0, none⟩ = some (.bool f.v) ∧ w.cell? ⟨g, 1, none⟩ = some (.int .i64 f.num) ∧ w.cell? ⟨g, 2, none⟩ = some (.int .i64 f.size) ∧ w.cell? ⟨g, 3, none⟩ = some (.int .i64 f.sc) ∧ w.cell? ⟨g, 4, none⟩ = some (.int .i64 f.rc) ∧ w.cell? ⟨g, 5, none⟩ = some (.int .i64 f.wc) ∧ w.cell? ⟨g, 6, none⟩ = some (.int .i64 f.mo) ∧ w.cell? ⟨g, 7, none⟩ = some (.slice so f.S.length sk) := by
 refine ⟨?_, ?_, ?_, ?_, ?_, ?_, ?_, ?_⟩ <;> (rw [cell_of_row _ _ _ _ _ _ h]; rfl)
end Go.Proofs.YthgpleelpeacjaaGreatDoor
namespace Go.Proofs.YthgpleelpeacjaaGreatDoor
open Go.ChangeShapes Go.WideShapes Go.ChangeAt Go.RowKit Go.Deep
theorem acells3 : Tryz.prog.cellsOf 3 = 1 := by kernel_rfl
theorem abytes3 : Tryz.prog.bytesOf 3 = 8 := by kernel_rfl
section
variable {H : Type} {enc : TypeId × Value → H} {w : World} {base base2 : Nat} {held : Bool}
theorem at_spot {a : Addr} {v : Value} (h : w.cell? (a.add 0) = some v) : ∃ b off, a = ⟨b, off, none⟩ := by
 obtain ⟨b, off, spot⟩ := a
 cases spot with
 | none => exact ⟨b, off, rfl⟩
 | some x =>
  exfalso
  unfold Addr.add World.cell? at h
  split at h <;> simp at h
theorem open_row {fuel : Nat} {cs : List Value} {x : DataW H × List MemPlace} (h : DataW.trod enc Tryz.prog w base (fun _ => true) held fuel 22 cs = some x) (hw : ∀ n ∈ x.1.weights Tryz.prog 22, n ≤ reachBytes) :
  ∃ (ao : Option Addr) (cap : Nat) (l : List Int), cs = [.slice ao l.length cap] ∧ IntsAt w ao l ∧ l.length ≤ cap ∧ (ao = none → cap = 0) := by
 rcases open_ints Tryz.underlying22 Tryz.underlying3 acells3 h with ⟨rfl, rfl⟩ | ⟨a, len, cap, zs, rfl, _, hl, hm, hz, hx, hc, hwf⟩
 ·exact ⟨none, 0, [], rfl, ⟨by simp, fun n hn => absurd hn (by simp), fun h => absurd h (by simp)⟩, Nat.le_refl _, fun _ => rfl⟩
 ·simp only [if_true] at hz
  rw [hx] at hw
  simp only [DataW.weights, Tryz.underlying22] at hw
  have hcap : cap * 8 ≤ reachBytes := by
   have := hw _ (List.mem_cons_self)
   rw [abytes3] at this
   simp only [lits, List.length_map, List.length_take, List.length_drop] at this
   have e : min len zs.length + (zs.length - len) = cap := by omega
   rwa [e] at this
  simp only [reachBytes] at hcap
  have hL : (zs.take len).length = len := by rw [List.length_take]; omega
  refine ⟨some a, cap, zs.take len, by rw [hL], ⟨by rw [hL]; omega, fun n hn => bounds_i64 (hwf n (List.mem_of_mem_take hn)), fun h0 => ?_⟩, by rw [hL]; exact hl, fun e => by cases e⟩
  rw [hL] at h0
  obtain ⟨b, off, rfl⟩ := at_spot (hc 0 (by omega))
  refine ⟨b, off, rfl, fun j hj => ?_⟩
  rw [hL] at hj
  have h9 := hc j (by omega)
  rw [Addr.add_mid] at h9
  rw [h9]
  congr 2
  rw [List.getD_eq_getElem?_getD, List.getD_eq_getElem?_getD, List.getElem?_take, if_pos hj]
theorem open_list {r : Reach} {v : Value} {d : DataW H} {q : List MemPlace} (hv : Value.okWide Tryz.prog w r base2 22 v) (h : DataW.Trod enc Tryz.prog w base (fun _ => true) held 22 v d q) (hw : ∀ n ∈ d.weights Tryz.prog 22, n ≤ reachBytes) :
  ∃ (ao : Option Addr) (cap : Nat) (l : List Int), v = .slice ao l.length cap ∧ IntsAt w ao l ∧ l.length ≤ cap ∧ (ao = none → cap = 0) := by
 obtain ⟨ao, len, cap, rfl⟩ := okWide_slice Tryz.underlying22 hv
 obtain ⟨fuel, hf⟩ := h
 obtain ⟨ao', cap', l, hc, h1, h2, h3⟩ := open_row hf hw
 have e : (Value.slice ao len cap) = .slice ao' l.length cap' := by
  have : ([Value.slice ao len cap] : List Value) = [.slice ao' l.length cap'] := hc
  injection this
 exact ⟨ao', cap', l, e, h1, h2, h3⟩
end
end Go.Proofs.YthgpleelpeacjaaGreatDoor
namespace Go.Proofs.YthgpleelpeacjaaGreatDoor
open Go.RowKit
structure RowsAt (w : World) (ao : Option Addr) (xs : List (List Int)) : Prop where
 len : xs.length ≤ 5864062014805
 lies : 0 < xs.length → ∃ b off, ao = some ⟨b, off, none⟩ ∧ ∀ i, i < xs.length → ∃ a c, w.cell? ⟨b, off + i, none⟩ = some (.slice a (xs.getD i []).length c) ∧ (xs.getD i []).length ≤ c ∧ (a = none → c = 0) ∧ IntsAt w a (xs.getD i [])
theorem RowsAt.below {w w' : World} {ao : Option Addr} {xs : List (List Int)} (h : RowsAt w ao xs) (hb : Below w.heap.size w w') : RowsAt w' ao xs := by
 refine ⟨h.len, fun h0 => ?_⟩
 obtain ⟨b, off, e, hc⟩ := h.lies h0
 refine ⟨b, off, e, fun i hi => ?_⟩
 obtain ⟨a, c, h1, h2, h3, h4⟩ := hc i hi
 exact ⟨a, c, by rw [World.cell?_of_block (w := w) (hb.block _ (lt_cell h1))]; exact h1, h2, h3, h4.below hb⟩
end Go.Proofs.YthgpleelpeacjaaGreatDoor
namespace Go.Proofs.YthgpleelpeacjaaGreatDoor
open Go.ChangeShapes Go.WideShapes Go.ChangeAt Go.RowKit Go.Deep
abbrev infV (a b c d : Int) (i : Inf) (e : Int) (s : ByteArray) : Value := .agg #[.int .i64 a, .int .i64 b, .int .i64 c, .int .i64 d, .int .i64 i.rate, .int .i64 i.ch, .int .i64 i.wd, .int .i64 e, .string s]
structure FmAt (w : World) (f : Fm) (so : Option Addr) (sk : Nat) : Prop where
 S : SubsAt w so f.S
 sk_ : f.S.length ≤ sk ∧ (so = none → sk = 0)
 num : I64 f.num
 size : I64 f.size
 sc : I64 f.sc
 rc : I64 f.rc
 wc : I64 f.wc
 mo : I64 f.mo
end Go.Proofs.YthgpleelpeacjaaGreatDoor
