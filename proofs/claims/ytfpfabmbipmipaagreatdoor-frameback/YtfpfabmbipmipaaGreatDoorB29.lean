/- Own text. -/
import Derived.Test.YtfpfabmbipmipaaGreatDoorB28
import Derived.ProofKit
import Derived.OpenShut
import Derived.Deep.Slices
import Derived.Lib.SmallJoins
import Derived.ChangeSlices
set_option linter.unusedSimpArgs false
set_option linter.unusedVariables false
set_option maxRecDepth 20000
set_option maxHeartbeats 12800000
namespace Go.Proofs.YtfpfabmbipmipaaGreatDoor
open Go.RowKit
def IntTab (b : Nat) (T : List Int) (w : World) : Prop := ∀ j, j < T.length -> w.cell? ⟨b, j, none⟩ = some (.int .i64 (T.getD j 0))
theorem IntTab.below {b : Nat} {T : List Int} {w w' : World} (h : IntTab b T w) (hb : Lo w w') : IntTab b T w' := fun j hj => by
 have h1 := h j hj
 rw [<- h1]; exact World.cell?_of_block (w := w) (hb.block _ (lt_cell h1))
abbrev sizT : List Int := [0, 192, 576, 1152, 2304, 4608, 0, 0, 256, 512, 1024, 2048, 4096, 8192, 16384, 32768]
abbrev ratT : List Int := [0, 88200, 176400, 192000, 8000, 16000, 22050, 24000, 32000, 44100, 48000, 96000, 0, 0, 0, 0]
abbrev widT : List Int := [0, 8, 12, 0, 16, 20, 24, 0]
structure Lay (w : World) : Prop where
 z : IntTab 0 sizT w
 r : IntTab 1 ratT w
 d : IntTab 2 widT w
 u : S3.RulesAt w
theorem Lay.below {w w' : World} (h : Lay w) (hb : Lo w w') : Lay w' := ⟨h.z.below hb, h.r.below hb, h.d.below hb, S3.RulesAt.below h.u hb⟩
def szb (c : Int) : Int := if c = 6 then 1 else if c = 7 then 2 else 0
def rtb (c : Int) : Int := if c = 12 then 1 else if c = 13 then 2 else if c = 14 then 2 else 0
def rtu (c : Int) : Int := if c = 12 then 1000 else if c = 14 then 10 else 1
theorem szb_all (c : Int) : (c = 6 /\ szb c = 1) ∨ (c = 7 /\ szb c = 2) ∨ (¬ c = 6 /\ ¬ c = 7 /\ szb c = 0) := by
 unfold szb
 by_cases a : c = 6
 ·exact .inl ⟨a, if_pos a⟩
 ·by_cases b : c = 7
  ·exact .inr (.inl ⟨b, by rw [if_neg a, if_pos b]⟩)
  ·exact .inr (.inr ⟨a, b, by rw [if_neg a, if_neg b]⟩)
theorem rtb_all (c : Int) : (c = 12 /\ rtb c = 1 /\ rtu c = 1000) ∨ (c = 13 /\ rtb c = 2 /\ rtu c = 1) ∨ (c = 14 /\ rtb c = 2 /\ rtu c = 10) ∨ (¬ c = 12 /\ ¬ c = 13 /\ ¬ c = 14 /\ rtb c = 0 /\ rtu c = 1) := by
 unfold rtb rtu
 by_cases a : c = 12
 ·exact .inl ⟨a, if_pos a, if_pos a⟩
 ·by_cases b : c = 13
  ·exact .inr (.inl ⟨b, by rw [if_neg a, if_pos b], by rw [if_neg a, if_neg (by omega)]⟩)
  ·by_cases d : c = 14
   ·exact .inr (.inr (.inl ⟨d, by rw [if_neg a, if_neg b, if_pos d], by rw [if_neg a, if_pos d]⟩))
   ·exact .inr (.inr (.inr ⟨a, b, d, by rw [if_neg a, if_neg b, if_neg d], by rw [if_neg a, if_neg d]⟩))
theorem f_szb (c : Int) (w : World) : Calls Tryz.prog 60 #[.int .i64 c] w fun e w' => e = .returned (.int .i64 (szb c)) /\ w' = w := by
 by_cases g6 : c = 6
 focus
  have HV : Hid (szb c = 1) := by show _ = _; unfold szb; omega
  rw [HV.out]
  have hk6 : (c == 6) = true := eQt (by omega)
  have hk7 : (c == 7) = false := eQf (by omega)
 rotate_left
 focus
  skip
  by_cases g7 : c = 7
  focus
   have HV : Hid (szb c = 2) := by show _ = _; unfold szb; omega
   rw [HV.out]
   have hk6 : (c == 6) = false := eQf (by omega)
   have hk7 : (c == 7) = true := eQt (by omega)
  rotate_left
  focus
   skip
   have HV : Hid (szb c = 0) := by show _ = _; unfold szb; omega
   rw [HV.out]
   have hk6 : (c == 6) = false := eQf (by omega)
   have hk7 : (c == 7) = false := eQf (by omega)
  rotate_left
 rotate_left 2
 all_goals
  clear HV
  go_enter Tryz.func60, Tryz.ntmps60
  go_wp2_with fail
  go_ret
  exact ⟨rfl, rfl⟩
theorem f_rtb (c : Int) (w : World) : Calls Tryz.prog 61 #[.int .i64 c] w fun e w' => e = .returned (.int .i64 (rtb c)) /\ w' = w := by
 by_cases g12 : c = 12
 focus
  have HV : Hid (rtb c = 1) := by show _ = _; unfold rtb; omega
  rw [HV.out]
  have hk12 : (c == 12) = true := eQt (by omega)
  have hk13 : (c == 13) = false := eQf (by omega)
 rotate_left
 focus
  skip
  by_cases g13 : c = 13
  focus
   have HV : Hid (rtb c = 2) := by show _ = _; unfold rtb; omega
   rw [HV.out]
   have hk12 : (c == 12) = false := eQf (by omega)
   have hk13 : (c == 13) = true := eQt (by omega)
  rotate_left
  focus
   skip
   by_cases g14 : c = 14
   ·have HV : Hid (rtb c = 2) := by show _ = _; unfold rtb; omega
    rw [HV.out]
    have hk12 : (c == 12) = false := eQf (by omega)
    have hk13 : (c == 13) = false := eQf (by omega)
    have hk14 : (c == 14) = true := eQt (by omega)
    clear HV
    go_enter Tryz.func61, Tryz.ntmps61
    go_wp2_with fail
    go_ret
    exact ⟨rfl, rfl⟩
   focus
    skip
    have HV : Hid (rtb c = 0) := by show _ = _; unfold rtb; omega
    rw [HV.out]
    have hk12 : (c == 12) = false := eQf (by omega)
    have hk13 : (c == 13) = false := eQf (by omega)
   rotate_left
  rotate_left
 rotate_left 2
 all_goals
  have hk14 : (c == 14) = false := eQf (by omega)
  clear HV
  go_enter Tryz.func61, Tryz.ntmps61
  go_wp2_with fail
  go_ret
  exact ⟨rfl, rfl⟩
theorem f_rtu (c : Int) (w : World) : Calls Tryz.prog 62 #[.int .i64 c] w fun e w' => e = .returned (.int .i64 (rtu c)) /\ w' = w := by
 by_cases g12 : c = 12
 focus
  have HV : Hid (rtu c = 1000) := by show _ = _; unfold rtu; omega
  rw [HV.out]
  have hk12 : (c == 12) = true := eQt (by omega)
  have hk14 : (c == 14) = false := eQf (by omega)
 rotate_left
 focus
  skip
  by_cases g14 : c = 14
  focus
   have HV : Hid (rtu c = 10) := by show _ = _; unfold rtu; omega
   rw [HV.out]
   have hk12 : (c == 12) = false := eQf (by omega)
   have hk14 : (c == 14) = true := eQt (by omega)
  rotate_left
  focus
   skip
   have HV : Hid (rtu c = 1) := by show _ = _; unfold rtu; omega
   rw [HV.out]
   have hk12 : (c == 12) = false := eQf (by omega)
   have hk14 : (c == 14) = false := eQf (by omega)
  rotate_left
 rotate_left 2
 all_goals
  clear HV
  go_enter Tryz.func62, Tryz.ntmps62
  go_wp2_with fail
  go_ret
  exact ⟨rfl, rfl⟩
def sizS (c b : Int) : Int := if c = 6 ∨ c = 7 then b + 1 else sizT.getD c.toNat 0
def ratS (c b st : Int) : Int := if c = 0 then st else if c = 12 ∨ c = 13 ∨ c = 14 then b * rtu c else ratT.getD c.toNat 0
def widS (c st : Int) : Int := if c = 0 then st else widT.getD c.toNat 0
theorem tab_rng (T : List Int) (h : ∀ x ∈ T, -9223372036854775808 <= x /\ x <= 9223372036854775807) (j : Nat) : -9223372036854775808 <= T.getD j 0 /\ T.getD j 0 <= 9223372036854775807 := by
 rw [List.getD_eq_getElem?_getD]
 by_cases hj : j < T.length
 ·rw [List.getElem?_eq_getElem hj]; exact h _ (List.getElem_mem hj)
 ·rw [List.getElem?_eq_none (by omega)]; exact ⟨by decide, by decide⟩
theorem sizT_rng (j : Nat) : -9223372036854775808 <= sizT.getD j 0 /\ sizT.getD j 0 <= 9223372036854775807 := tab_rng _ (by decide) j
theorem ratT_rng (j : Nat) : -9223372036854775808 <= ratT.getD j 0 /\ ratT.getD j 0 <= 9223372036854775807 := tab_rng _ (by decide) j
theorem widT_rng (j : Nat) : -9223372036854775808 <= widT.getD j 0 /\ widT.getD j 0 <= 9223372036854775807 := tab_rng _ (by decide) j
theorem f_sizS (c b : Int) (hc : 0 <= c /\ c < 16) (hb : 0 <= b /\ b <= 70000) (w : World) (hL : Lay w) : Calls Tryz.prog 99 #[.int .i64 c, .int .i64 b] w fun e w' => e = .returned (.int .i64 (sizS c b)) /\ w' = w := by
 have kz := f_szb c
 rcases szb_all c with ⟨g, hz⟩ | ⟨g, hz⟩ | ⟨g6, g7, hz⟩
 rotate_left
 rotate_left
 ·have HV : Hid (sizS c b = sizT.getD c.toNat 0) := by show _ = _; unfold sizS; rw [if_neg (by omega)]
  rw [HV.out]
  rw [hz] at kz
  clear HV hz
  obtain ⟨j, rfl⟩ : ∃ j : Nat, c = j := ⟨c.toNat, by omega⟩
  rw [Int.toNat_natCast]
  have hcell := hL.z j (by show j < 16; omega)
  have hrg : -9223372036854775808 <= sizT.getD j 0 /\ sizT.getD j 0 <= 9223372036854775807 := sizT_rng j
  generalize sizT.getD j 0 = v at *
  clear hL
  go_enter Tryz.func99, Tryz.ntmps99
  go_wp2_with fail
  refine (kz _).mono ?_
  rintro e wc ⟨rfl, hwc⟩
  subst hwc
  go_wp2_with fail
  go_ret
  exact ⟨rfl, rfl⟩
 all_goals
  have HV : Hid (sizS c b = b + 1) := by show _ = _; unfold sizS; rw [if_pos (by omega)]
  rw [HV.out]
  rw [hz] at kz
  clear HV hL hz g
  go_enter Tryz.func99, Tryz.ntmps99
  go_wp2_with fail
  refine (kz _).mono ?_
  rintro e wc ⟨rfl, hwc⟩
  subst hwc
  go_wp2_with fail
  go_ret
  exact ⟨by first | rfl | go_num | simp, rfl⟩
theorem f_ratS (c b st : Int) (hc : 0 <= c /\ c < 16) (hb : 0 <= b /\ b <= 9223372036854775807) (hm : b * rtu c <= 9223372036854775807) (w : World) (hL : Lay w) : Calls Tryz.prog 100 #[.int .i64 c, .int .i64 b, .int .i64 st] w fun e w' => e = .returned (.int .i64 (ratS c b st)) /\ w' = w := by
 have kz := f_rtb c
 have ku := f_rtu c
 by_cases g0 : c = 0
 ·have HV : Hid (ratS c b st = st) := by show _ = _; unfold ratS; rw [if_pos g0]
  rw [HV.out]
  have hk0 : (c == 0) = true := by rw [beq_iff_eq]; exact g0
  clear HV hL kz ku g0
  go_enter Tryz.func100, Tryz.ntmps100
  go_wp2_with fail
  go_ret
  exact ⟨rfl, rfl⟩
 focus
  rcases rtb_all c with ⟨g, hz, hu⟩ | ⟨g, hz, hu⟩ | ⟨g, hz, hu⟩ | ⟨g1, g2, g3, hz, hu⟩
  rotate_left
  rotate_left
  rotate_left
  ·have HV : Hid (ratS c b st = ratT.getD c.toNat 0) := by show _ = _; unfold ratS; rw [if_neg g0, if_neg (by omega)]
   rw [HV.out]
   have hk0 : (c == 0) = false := by rw [beq_eq_false_iff_ne]; exact g0
   rw [hz] at kz
   clear HV hz hu ku g0 hm
   obtain ⟨j, rfl⟩ : ∃ j : Nat, c = j := ⟨c.toNat, by omega⟩
   rw [Int.toNat_natCast]
   have hcell := hL.r j (by show j < 16; omega)
   have hrg : -9223372036854775808 <= ratT.getD j 0 /\ ratT.getD j 0 <= 9223372036854775807 := ratT_rng j
   generalize ratT.getD j 0 = v at *
   clear hL
   go_enter Tryz.func100, Tryz.ntmps100
   go_wp2_with fail
   refine (kz _).mono ?_
   rintro e wc ⟨rfl, hwc⟩
   subst hwc
   go_wp2_with fail
   go_ret
   exact ⟨rfl, rfl⟩
 rotate_left 3
 all_goals
  have HV : Hid (ratS c b st = b * rtu c) := by show _ = _; unfold ratS; rw [if_neg g0, if_pos (by omega)]
  rw [HV.out]
  have hk0 : (c == 0) = false := by rw [beq_eq_false_iff_ne]; exact g0
  rw [hz] at kz
  rw [hu] at ku hm ⊢
  clear HV hL hz hu g0 g
  go_enter Tryz.func100, Tryz.ntmps100
  go_wp2_with fail
  refine (kz _).mono ?_
  rintro e wc ⟨rfl, hwc⟩
  subst hwc
  go_wp2_with fail
  refine (ku _).mono ?_
  rintro e wc ⟨rfl, hwc⟩
  subst hwc
  go_wp2_with fail
  go_ret
  exact ⟨by first | rfl | go_num | simp, rfl⟩
theorem f_widS (c st : Int) (hc : 0 <= c /\ c < 8) (w : World) (hL : Lay w) : Calls Tryz.prog 101 #[.int .i64 c, .int .i64 st] w fun e w' => e = .returned (.int .i64 (widS c st)) /\ w' = w := by
 by_cases g0 : c = 0
 ·have HV : Hid (widS c st = st) := by show _ = _; unfold widS; rw [if_pos g0]
  rw [HV.out]
  have hk0 : (c == 0) = true := by rw [beq_iff_eq]; exact g0
  clear HV hL g0
  go_enter Tryz.func101, Tryz.ntmps101
  go_wp2_with fail
  go_ret
  exact ⟨rfl, rfl⟩
 ·have HV : Hid (widS c st = widT.getD c.toNat 0) := by show _ = _; unfold widS; rw [if_neg g0]
  rw [HV.out]
  have hk0 : (c == 0) = false := by rw [beq_eq_false_iff_ne]; exact g0
  clear HV g0
  obtain ⟨j, rfl⟩ : ∃ j : Nat, c = j := ⟨c.toNat, by omega⟩
  rw [Int.toNat_natCast]
  have hcell := hL.d j (by show j < 8; omega)
  have hrg : -9223372036854775808 <= widT.getD j 0 /\ widT.getD j 0 <= 9223372036854775807 := widT_rng j
  generalize widT.getD j 0 = v at *
  clear hL
  go_enter Tryz.func101, Tryz.ntmps101
  go_wp2_with fail
  go_ret
  exact ⟨rfl, rfl⟩
theorem f_chS (c : Int) (hc : 0 <= c /\ c < 16) (w : World) : Calls Tryz.prog 98 #[.int .i64 c] w fun e w' => e = .returned (.tuple #[.int .i64 (if c < 8 then c + 1 else 2), .int .i64 (if c < 8 then 0 else c - 7)]) /\ w' = w := by
 by_cases g : c < 8
 ·rw [if_pos g, if_pos g]
  go_enter Tryz.func98, Tryz.ntmps98
  go_wp2_with fail
  go_ret2
  exact ⟨by first | rfl | go_num | simp, rfl⟩
 ·rw [if_neg g, if_neg g, show c - 7 = c - 8 + 1 by omega]
  go_enter Tryz.func98, Tryz.ntmps98
  go_wp2_with fail
  go_ret2
  exact ⟨by first | rfl | go_num | simp, rfl⟩
theorem f_chC (c m : Int) (hc : 1 <= c /\ c <= 8) (hm : 0 <= m /\ m <= 3) (w : World) : Calls Tryz.prog 58 #[.int .i64 c, .int .i64 m] w fun e w' => e = .returned (.int .i64 (if m = 0 then c - 1 else 7 + m)) /\ w' = w := by
 by_cases g : m = 0
 focus
  rw [if_pos g]
  have hk0 : (m == 0) = true := by rw [beq_iff_eq]; exact g
 rotate_left
 focus
  rw [if_neg g, show 7 + m = 8 + m - 1 by omega]
  have hk0 : (m == 0) = false := by rw [beq_eq_false_iff_ne]; exact g
 rotate_left
 all_goals
  clear g
  go_enter Tryz.func58, Tryz.ntmps58
  go_wp2_with fail
  go_ret
  exact ⟨by first | rfl | go_num | simp, rfl⟩
theorem f_isIn (c n : Int) (bb : Bool) (hbb : bb = true ↔ 0 <= c /\ c < n) (w : World) : Calls Tryz.prog 131 #[.int .i64 c, .int .i64 n] w fun e w' => e = .returned (.bool bb) /\ w' = w := by
 by_cases g0 : c < 0
 focus
  rw [bb_no hbb (by omega)]
  clear hbb
 rotate_left
 focus
  skip
  by_cases g1 : n <= c
  focus
   rw [bb_no hbb (by omega)]
   clear hbb
   have hb : decide (c < n) = false := decide_eq_false (by omega)
  rotate_left
  focus
   skip
   rw [bb_yes hbb (by omega)]
   clear hbb
   have hb : decide (c < n) = true := decide_eq_true (by omega)
  rotate_left
 rotate_left 2
 all_goals
  go_enter Tryz.func131, Tryz.ntmps131
  go_wp2_with fail
  go_ret
  exact ⟨rfl, rfl⟩
theorem f_hold1 (n : Int) (bb : Bool) (hbb : bb = true ↔ n < 256) (w : World) : Calls Tryz.prog 132 #[.int .i64 1, .int .i64 n] w fun e w' => e = .returned (.bool bb) /\ w' = w := by
 have hd : decide (n < 256) = bb := by
  cases bb with
  | true => exact decide_eq_true (hbb.1 rfl)
  | false => exact decide_eq_false (fun h => Bool.noConfusion (hbb.2 h))
 clear hbb
 go_enter Tryz.func132, Tryz.ntmps132
 go_wp2_with fail
 go_ret
 exact ⟨by first | rfl | simp [hd], rfl⟩
theorem f_hold2 (n : Int) (bb : Bool) (hbb : bb = true ↔ n < 65536) (w : World) : Calls Tryz.prog 132 #[.int .i64 2, .int .i64 n] w fun e w' => e = .returned (.bool bb) /\ w' = w := by
 have hd : decide (n < 65536) = bb := by
  cases bb with
  | true => exact decide_eq_true (hbb.1 rfl)
  | false => exact decide_eq_false (fun h => Bool.noConfusion (hbb.2 h))
 clear hbb
 go_enter Tryz.func132, Tryz.ntmps132
 go_wp2_with fail
 go_ret
 exact ⟨by first | rfl | simp [hd], rfl⟩
theorem f_hold0 (n : Int) (w : World) : Calls Tryz.prog 132 #[.int .i64 0, .int .i64 n] w fun e w' => e = .returned (.bool true) /\ w' = w := by
 go_enter Tryz.func132, Tryz.ntmps132
 go_wp2_with fail
 go_ret
 exact ⟨rfl, rfl⟩
abbrev fmC (f : Fm) (so : OA) (sk : Nat) : Array Value := #[.bool f.v, .int .i64 f.num, .int .i64 f.size, .int .i64 f.sc, .int .i64 f.rc, .int .i64 f.wc, .int .i64 f.mo, .slice so f.S.length sk]
abbrev fmV (f : Fm) (so : OA) (sk : Nat) : Value := .agg (fmC f so sk)
def SubIn (w : World) (b o : Nat) (q : Sb) (ca : OA) (cc : Nat) (pa : OA) (pc : Nat) (ea : OA) (ec : Nat) : Prop := w.cell? ⟨b, o, none⟩ = some (.int .i64 q.k) /\ w.cell? ⟨b, o + 1, none⟩ = some (.int .i64 q.o) /\ w.cell? ⟨b, o + 2, none⟩ = some (.int .i64 q.w) /\ w.cell? ⟨b, o + 3, none⟩ = some (.int .i64 q.p) /\ w.cell? ⟨b, o + 4, none⟩ = some (.int .i64 q.h) /\ w.cell? ⟨b, o + 5, none⟩ = some (.slice ca q.C.length cc) /\ w.cell? ⟨b, o + 6, none⟩ = some (.int .i64 q.R.m) /\ w.cell? ⟨b, o + 7, none⟩ = some (.int .i64 q.R.o) /\ w.cell? ⟨b, o + 8, none⟩ = some (.slice pa q.R.P.length pc) /\ w.cell? ⟨b, o + 9, none⟩ = some (.slice ea q.R.E.length ec)
theorem SubIn.keep {w w' : World} {b o : Nat} {q : Sb} {ca : OA} {cc : Nat} {pa : OA} {pc : Nat} {ea : OA} {ec : Nat} (h : SubIn w b o q ca cc pa pc ea ec) (hb : w'.heap[b]? = w.heap[b]?) : SubIn w' b o q ca cc pa pc ea ec := by
 have e : ∀ j, w'.cell? ⟨b, j, none⟩ = w.cell? ⟨b, j, none⟩ := fun j => World.cell?_of_block (w := w) hb
 unfold SubIn at h ⊢
 simp only [e]
 exact h
structure SubsAt (w : World) (so : OA) (S : List Sb) : Prop where
 len : S.length <= 1759218604441
 lies : 0 < S.length -> ∃ b off, so = some ⟨b, off, none⟩ /\ ∀ c, c < S.length -> ∃ ca cc pa pc ea ec, SubIn w b (off + c * 10) (S.getD c Sb0) ca cc pa pc ea ec /\ SbAt w (S.getD c Sb0) ca pa ea /\ ((S.getD c Sb0).C.length <= cc /\ (ca = none -> cc = 0))
theorem SubsAt.below {w w' : World} {so : OA} {S : List Sb} (h : SubsAt w so S) (hb : Lo w w') : SubsAt w' so S := by
 refine ⟨h.len, fun h0 => ?_⟩
 obtain ⟨b, off, e, hc⟩ := h.lies h0
 refine ⟨b, off, e, fun c hl => ?_⟩
 obtain ⟨ca, cc, pa, pc, ea, ec, h1, h2, h3⟩ := hc c hl
 exact ⟨ca, cc, pa, pc, ea, ec, h1.keep (hb.block _ (lt_cell h1.1)), h2.below hb, h3⟩
theorem fm_cells {w : World} {g : Nat} {f : Fm} {so : OA} {sk : Nat} (h : w.heap[g]? = some (.cells (fmC f so sk) 24 (0, 0))) :
  w.cell? ⟨g, 0, none⟩ = some (.bool f.v) /\ w.cell? ⟨g, 1, none⟩ = some (.int .i64 f.num) /\ w.cell? ⟨g, 2, none⟩ = some (.int .i64 f.size) /\ w.cell? ⟨g, 3, none⟩ = some (.int .i64 f.sc) /\ w.cell? ⟨g, 4, none⟩ = some (.int .i64 f.rc) /\ w.cell? ⟨g, 5, none⟩ = some (.int .i64 f.wc) /\ w.cell? ⟨g, 6, none⟩ = some (.int .i64 f.mo) /\ w.cell? ⟨g, 7, none⟩ = some (.slice so f.S.length sk) := by
 refine ⟨?_, ?_, ?_, ?_, ?_, ?_, ?_, ?_⟩ <;> (rw [cell_of_row _ _ _ _ _ _ h]; rfl)
theorem fr_same (f : Fm) (so ro : OA) (sk rk : Nat) (w : World) (h1 : SubsAt w so f.S) (h2 : SubsAt w ro f.S) : Calls Tryz.prog 16 #[fmV f so sk, fmV f ro rk] w fun e w' => e = .returned (.bool true) /\ Lo w w' := by
 have hl := h1.len
 have HA0 : Hid (((w.alloc (.cells (fmC f so sk) 24)).alloc (.cells (fmC f ro rk) 24)).heap[w.heap.size]? = some (.cells (fmC f so sk) 24 (0, 0)) /\ ((w.alloc (.cells (fmC f so sk) 24)).alloc (.cells (fmC f ro rk) 24)).heap[w.heap.size + 1]? = some (.cells (fmC f ro rk) 24 (0, 0)) /\ Lo w ((w.alloc (.cells (fmC f so sk) 24)).alloc (.cells (fmC f ro rk) 24))) := by
  refine ⟨heap_two _ _ _, ?_, aQ.alloc (by simp) _⟩
  have hh := heap_alloc_new (w.alloc (.cells (fmC f so sk) 24)) (.cells (fmC f ro rk) 24)
  rw [show (w.alloc (.cells (fmC f so sk) 24)).heap.size = w.heap.size + 1 from by simp] at hh
  exact hh
 have H1 := kQ h1
 have H2 := kQ h2
 clear h1 h2
 go_enter Tryz.func16, Tryz.ntmps16
 go_upto_region 1 with fail
 generalize World.alloc _ _ = wa at *
 obtain ⟨z0, z1, z2, z3, z4, z5, z6, z7⟩ := fm_cells HA0.out.1
 obtain ⟨u0, u1, u2, u3, u4, u5, u6, u7⟩ := fm_cells HA0.out.2.1
 go_wp2_with fail
 clear z0 z1 z2 z3 z4 z5 z6 z7 u0 u1 u2 u3 u4 u5 u6 u7
 go_loopw [5] (fun s5 wr => ∃ c : Nat, c <= f.S.length /\ s5 = .int .i64 (c : Int) /\ wr.heap[w.heap.size]? = some (.cells (fmC f so sk) 24 (0, 0)) /\ wr.heap[w.heap.size + 1]? = some (.cells (fmC f ro rk) 24 (0, 0)) /\ Lo w wr) (fun s5 _ => f.S.length - (intOf s5).toNat)
 case atStart => exact ⟨0, Nat.zero_le _, rfl, HA0.out.1, HA0.out.2.1, HA0.out.2.2⟩
 case round =>
  clear HA0
  obtain ⟨c, hc, rfl, b1, b2, b3⟩ := hrel
  by_cases hlt : c < f.S.length
  ·obtain ⟨sb, sf, rfl, q1⟩ := H1.out.lies (by omega)
   obtain ⟨rb, rf, rfl, q2⟩ := H2.out.lies (by omega)
   obtain ⟨sa, sac, sp, spc, se, sec, m1, m2, m3⟩ := q1 c hlt
   obtain ⟨ra, rac, rp, rpc, re, rec_, n1, n2, n3⟩ := q2 c hlt
   have hs1 := lt_cell m1.1
   have hs2 := lt_cell n1.1
   have HS1 := kQ m1
   have HS2 := kQ n1
   have HK : Hid (∀ wx, Lo w wx -> G1 56 #[subV (f.S.getD c Sb0) sa sac sp spc se sec, subV (f.S.getD c Sb0) ra rac rp rpc re rec_] wx (.bool true)) := fun wx hb => sub_same (f.S.getD c Sb0) sa sac sp spc se sec ra rac rp rpc re rec_ wx (m2.below hb) (n2.below hb)
   have HD : Hid (wr.drew.heap[w.heap.size]? = some (.cells (fmC f (some ⟨sb, sf, none⟩) sk) 24 (0, 0)) /\ wr.drew.heap[w.heap.size + 1]? = some (.cells (fmC f (some ⟨rb, rf, none⟩) rk) 24 (0, 0)) /\ Lo w wr.drew) := ⟨b1, b2, b3.trans dQ⟩
   obtain ⟨z0, z1, z2, z3, z4, z5, z6, z7⟩ := fm_cells b1
   obtain ⟨u0, u1, u2, u3, u4, u5, u6, u7⟩ := fm_cells b2
   clear q1 q2 m1 m2 m3 n1 n2 n3 b1 b2 b3
   generalize f.S.getD c Sb0 = q at *
   go_wp2_with fail
   clear z0 z1 z2 z3 z4 z5 z6 z7 u0 u1 u2 u3 u4 u5 u6 u7
   refine wp_region_held_drew (S := fun wx => wx.heap[w.heap.size]? = some (.cells (fmC f (some ⟨sb, sf, none⟩) sk) 24 (0, 0)) /\ wx.heap[w.heap.size + 1]? = some (.cells (fmC f (some ⟨rb, rf, none⟩) rk) 24 (0, 0)) /\ Lo w wx) (by kernel_rfl) HD.out (fun hS => ?_)
   refine vQ 0 (.pointer (some ⟨w.heap.size, 7, none⟩)) hS ?_
   simp only [SL]
   refine uQ 1 (.slice (some ⟨sb, sf, none⟩) f.S.length sk) rfl hS (Or.inl ⟨by rfl, fun w hSw => by obtain ⟨z0, z1, z2, z3, z4, z5, z6, z7⟩ := fm_cells hSw.1; obtain ⟨u0, u1, u2, u3, u4, u5, u6, u7⟩ := fm_cells hSw.2.1; go_simp⟩) ?_
   simp only [SL]
   refine vQ 2 (.int .i64 (c : Int)) hS ?_
   simp only [SL]
   refine vQ 3 (.pointer (some ⟨sb, sf + c * 10, none⟩)) hS ?_
   simp only [SL]
   refine uQ 4 (subV q sa sac sp spc se sec) rfl hS (Or.inl ⟨by rfl, fun w hSw => by have hk := HS1.out.keep (hSw.2.2.block _ hs1); obtain ⟨x0, x1, x2, x3, x4, x5, x6, x7, x8, x9⟩ := hk; go_simp⟩) ?_
   simp only [SL]
   refine vQ 5 (.pointer (some ⟨w.heap.size + 1, 7, none⟩)) hS ?_
   simp only [SL]
   refine uQ 6 (.slice (some ⟨rb, rf, none⟩) f.S.length rk) rfl hS (Or.inl ⟨by rfl, fun w hSw => by obtain ⟨z0, z1, z2, z3, z4, z5, z6, z7⟩ := fm_cells hSw.1; obtain ⟨u0, u1, u2, u3, u4, u5, u6, u7⟩ := fm_cells hSw.2.1; go_simp⟩) ?_
   simp only [SL]
   refine vQ 7 (.int .i64 (c : Int)) hS ?_
   simp only [SL]
   refine vQ 8 (.pointer (some ⟨rb, rf + c * 10, none⟩)) hS ?_
   simp only [SL]
   refine uQ 9 (subV q ra rac rp rpc re rec_) rfl hS (Or.inl ⟨by rfl, fun w hSw => by have hk := HS2.out.keep (hSw.2.2.block _ hs2); obtain ⟨x0, x1, x2, x3, x4, x5, x6, x7, x8, x9⟩ := hk; go_simp⟩) ?_
   simp only [SL]
   refine wpAnyH_ready (rs := [10]) (by kernel_rfl) (by simp) ?_
   refine AllReadyH.cons rfl (fun K hK => ?_) AllReadyH.nil
   go_simp
   refine (HK.out _ hS.2.2).mono ?_
   rintro e w3 ⟨rfl, hb3⟩
   have HD3 : Hid (w3.heap[w.heap.size]? = some (.cells (fmC f (some ⟨sb, sf, none⟩) sk) 24 (0, 0)) /\ w3.heap[w.heap.size + 1]? = some (.cells (fmC f (some ⟨rb, rf, none⟩) rk) 24 (0, 0)) /\ Lo w w3) := ⟨by rw [hb3.block _ (lt_of_block hS.1)]; exact hS.1, by rw [hb3.block _ (lt_of_block hS.2.1)]; exact hS.2.1, hS.2.2.trans (hb3.mono hS.2.2.size)⟩
   refine hK.out _ _ HD3.out (fun hS3 => ?_)
   clear hK K hb3
   try simp only [SL]
   refine vQ 11 (.bool false) hS3 ?_
   simp only [SL]
   refine wpAnyH_done (by kernel_rfl) ?_ _
   go_wp2_with fail
   go_roundw
   case rel => exact ⟨c + 1, by omega, by go_num, HD3.out.1, HD3.out.2.1, HD3.out.2.2⟩
   case measure => simp [intOf]; omega
  ·obtain ⟨z0, z1, z2, z3, z4, z5, z6, z7⟩ := fm_cells b1
   have HB3 := kQ b3
   clear b1 b2 b3
   go_wp2_with fail
   go_ret
   exact ⟨rfl, HB3.out⟩
end Go.Proofs.YtfpfabmbipmipaaGreatDoor
namespace Go.Proofs.YtfpfabmbipmipaaGreatDoor
open Go.ChangeShapes Go.WideShapes Go.ChangeAt Go.RowKit Go.Deep
theorem acells3 : Tryz.prog.cellsOf 3 = 1 := by kernel_rfl
theorem acellsI : Tryz.prog.cellsOf 56 = 1 := by kernel_rfl
theorem acellsR : Tryz.prog.cellsOf 65 = 4 := by kernel_rfl
theorem abytes3 : Tryz.prog.bytesOf 3 = 8 := by kernel_rfl
theorem acellsS : Tryz.prog.cellsOf 67 = 10 := by kernel_rfl
section
variable {H : Type} {enc : TypeId × Value -> H} {w : World} {base base2 : Nat} {held : Bool}
theorem at_spot {a : Addr} {v : Value} (h : w.cell? (a.add 0) = some v) : ∃ b off, a = ⟨b, off, none⟩ := by
 obtain ⟨b, off, spot⟩ := a
 cases spot with
 | none => exact ⟨b, off, rfl⟩
 | some x =>
  exfalso
  unfold Addr.add World.cell? at h
  split at h <;> simp at h
theorem open_row {fuel : Nat} {cs : List Value} {x : DataW H × List MemPlace} (h : DataW.trod enc Tryz.prog w base (fun _ => true) held fuel 56 cs = some x) (hw : ∀ n ∈ x.1.weights Tryz.prog 56, n <= reachBytes) :
  ∃ (ao : OA) (cap : Nat) (l : List Int), cs = [.slice ao l.length cap] /\ IntsAt w ao l /\ l.length <= cap /\ (ao = none -> cap = 0) := by
 rcases open_ints Tryz.underlying56 Tryz.underlying3 acells3 h with ⟨rfl, rfl⟩ | ⟨a, len, cap, zs, rfl, _, hl, hm, hz, hx, hc, hwf⟩
 ·exact ⟨none, 0, [], rfl, ⟨by simp, fun n hn => absurd hn (by simp), fun h => absurd h (by simp)⟩, Nat.le_refl _, fun _ => rfl⟩
 ·simp only [if_true] at hz
  rw [hx] at hw
  simp only [DataW.weights, Tryz.underlying56] at hw
  have hcap : cap * 8 <= reachBytes := by
   have := hw _ (List.mem_cons_self)
   rw [abytes3] at this
   simp only [lits, List.length_map, List.length_take, List.length_drop] at this
   have e : min len zs.length + (zs.length - len) = cap := by omega
   rwa [e] at this
  simp only [reachBytes] at hcap
  have hL : (zs.take len).length = len := by rw [List.length_take]; omega
  refine ⟨some a, cap, zs.take len, by rw [hL], ⟨by rw [hL]; omega, fun n hn => bounds_i64 (hwf n (List.mem_of_mem_take hn)), fun h0 => ?_⟩, by rw [hL]; exact hl, fun e => by cases e⟩
  rw [hL] at h0
  obtain ⟨b, off, rfl⟩ := at_spot (hc 0 (by omega))
  refine ⟨b, off, rfl, fun j hj => ?_⟩
  rw [hL] at hj
  have h9 := hc j (by omega)
  rw [Addr.add_mid] at h9
  rw [h9]
  congr 2
  rw [List.getD_eq_getElem?_getD, List.getD_eq_getElem?_getD, List.getElem?_take, if_pos hj]
theorem struct7 {P : Program} {t : TypeId} {f0 f1 f2 f3 f4 f5 f6 : Field} {fuel : Nat} {cs : List Value} {x : DataW H × List MemPlace} {spare : Nat -> Bool} (ht : P.underlying t = some (.struct #[f0, f1, f2, f3, f4, f5, f6])) (h : DataW.trod enc P w base spare held fuel t cs = some x) :
  ∃ y0 y1 y2 y3 y4 y5 y6 n, x.1 = .agg [y0.1, y1.1, y2.1, y3.1, y4.1, y5.1, y6.1] /\ cs.length = P.cellsOf t /\ DataW.trod enc P w base spare held n f0.type ((cs.drop f0.offset).take (P.cellsOf f0.type)) = some y0 /\ DataW.trod enc P w base spare held n f1.type ((cs.drop f1.offset).take (P.cellsOf f1.type)) = some y1 /\ DataW.trod enc P w base spare held n f2.type ((cs.drop f2.offset).take (P.cellsOf f2.type)) = some y2 /\ DataW.trod enc P w base spare held n f3.type ((cs.drop f3.offset).take (P.cellsOf f3.type)) = some y3 /\ DataW.trod enc P w base spare held n f4.type ((cs.drop f4.offset).take (P.cellsOf f4.type)) = some y4 /\ DataW.trod enc P w base spare held n f5.type ((cs.drop f5.offset).take (P.cellsOf f5.type)) = some y5 /\ DataW.trod enc P w base spare held n f6.type ((cs.drop f6.offset).take (P.cellsOf f6.type)) = some y6 := by
 obtain ⟨xs, n, _, rfl, hl, hlen, hf⟩ := DataW.trod_struct ht h
 match xs, hlen with
 | [y0, y1, y2, y3, y4, y5, y6], _ => exact ⟨y0, y1, y2, y3, y4, y5, y6, n, by simp, hl, by simpa using hf 0 f0 rfl, by simpa using hf 1 f1 rfl, by simpa using hf 2 f2 rfl, by simpa using hf 3 f3 rfl, by simpa using hf 4 f4 rfl, by simpa using hf 5 f5 rfl, by simpa using hf 6 f6 rfl⟩
theorem open_riceC {fuel : Nat} {cs : List Value} {x : DataW H × List MemPlace} (hf : DataW.trod enc Tryz.prog w base (fun _ => true) held fuel 65 cs = some x) (hw : ∀ n ∈ x.1.weights Tryz.prog 65, n <= reachBytes) :
  ∃ (c : Rc) (pa : OA) (pc : Nat) (ea : OA) (ec : Nat), cs = [.int .i64 c.m, .int .i64 c.o, .slice pa c.P.length pc, .slice ea c.E.length ec] /\ RcAt w c pa ea := by
 obtain ⟨y0, y1, y2, y3, m, hx, hl, h0, h1, h2, h3⟩ := Joins.trod_struct4 Tryz.underlying65 hf
 rw [acellsR] at hl
 obtain ⟨z0, e0, f0, q0⟩ := DataW.trod_int Tryz.underlying3 h0
 obtain ⟨z1, e1, f1, q1⟩ := DataW.trod_int Tryz.underlying3 h1
 have hd : x.1 = .agg [y0.1, y1.1, y2.1, y3.1] := by rw [hx]
 have hw2 : ∀ n ∈ y2.1.weights Tryz.prog 56, n <= reachBytes := fun n hn => by
  apply hw
  rw [hd]
  simp only [DataW.weights, Tryz.underlying65, List.map_cons, List.map_nil, DataW.weightsEach, List.toList_toArray]
  simp only [List.mem_append]
  exact .inr (.inr (.inl hn))
 have hw3 : ∀ n ∈ y3.1.weights Tryz.prog 56, n <= reachBytes := fun n hn => by
  apply hw
  rw [hd]
  simp only [DataW.weights, Tryz.underlying65, List.map_cons, List.map_nil, DataW.weightsEach, List.toList_toArray]
  simp only [List.mem_append]
  exact .inr (.inr (.inr (.inl hn)))
 obtain ⟨pa, pc, P, hP, iP, _, _⟩ := open_row h2 hw2
 obtain ⟨ea, ec, E, hE, iE, _, _⟩ := open_row h3 hw3
 match cs, hl with
 | [c0, c1, c2, c3], _ =>
  simp [acells3] at e0 e1
  simp [acells3, acellsI] at hP hE
  subst e0 e1 hP hE
  exact ⟨⟨z0, z1, P, E⟩, pa, pc, ea, ec, rfl, ⟨iP, iE, (bounds_i64 q0).1, (bounds_i64 q0).2, (bounds_i64 q1).1, (bounds_i64 q1).2⟩⟩
end
theorem acellsB : Tryz.prog.cellsOf 22 = 1 := by kernel_rfl
theorem abytesS : Tryz.prog.bytesOf 67 = 128 := by kernel_rfl
theorem weights_all {H : Type} (P : Program) (e : TypeId) : ∀ (l : List (DataW H)) (d : DataW H), d ∈ l -> ∀ n ∈ d.weights P e, n ∈ DataW.weightsAll P e l
 | [], d, h, n, hn => by cases h
 | x :: r, d, h, n, hn => by
  have e1 : DataW.weightsAll P e (x :: r) = x.weights P e ++ DataW.weightsAll P e r := rfl
  rw [e1]
  rcases List.mem_cons.1 h with h | h
  ·subst h
   exact List.mem_append.2 (.inl hn)
  ·exact List.mem_append.2 (.inr (weights_all P e r d h n hn))
section
variable {H : Type} {enc : TypeId × Value -> H} {w : World} {base base2 : Nat} {held : Bool}
theorem open_subC {fuel : Nat} {cs : List Value} {x : DataW H × List MemPlace} (hf : DataW.trod enc Tryz.prog w base (fun _ => true) held fuel 67 cs = some x) (hw : ∀ n ∈ x.1.weights Tryz.prog 67, n <= reachBytes) :
  ∃ (s : Sb) (ca : OA) (cc : Nat) (pa : OA) (pc : Nat) (ea : OA) (ec : Nat), cs = [.int .i64 s.k, .int .i64 s.o, .int .i64 s.w, .int .i64 s.p, .int .i64 s.h, .slice ca s.C.length cc, .int .i64 s.R.m, .int .i64 s.R.o, .slice pa s.R.P.length pc, .slice ea s.R.E.length ec] /\ SbAt w s ca pa ea /\ s.C.length <= cc /\ (ca = none -> cc = 0) := by
 obtain ⟨y0, y1, y2, y3, y4, y5, y6, m, hd, hl, h0, h1, h2, h3, h4, h5, h6⟩ := struct7 Tryz.underlying67 hf
 rw [acellsS] at hl
 obtain ⟨z0, e0, _, q0⟩ := DataW.trod_int Tryz.underlying3 h0
 obtain ⟨z1, e1, _, q1⟩ := DataW.trod_int Tryz.underlying3 h1
 obtain ⟨z2, e2, _, q2⟩ := DataW.trod_int Tryz.underlying3 h2
 obtain ⟨z3, e3, _, q3⟩ := DataW.trod_int Tryz.underlying3 h3
 obtain ⟨z4, e4, _, q4⟩ := DataW.trod_int Tryz.underlying3 h4
 have hw5 : ∀ n ∈ y5.1.weights Tryz.prog 56, n <= reachBytes := fun n hn => by
  apply hw
  rw [hd]
  simp only [DataW.weights, Tryz.underlying67, List.map_cons, List.map_nil, DataW.weightsEach, List.toList_toArray]
  simp only [List.mem_append]
  exact .inr (.inr (.inr (.inr (.inr (.inl hn)))))
 have hw6 : ∀ n ∈ y6.1.weights Tryz.prog 65, n <= reachBytes := fun n hn => by
  apply hw
  rw [hd]
  simp only [DataW.weights, Tryz.underlying67, List.map_cons, List.map_nil, DataW.weightsEach, List.toList_toArray]
  simp only [List.mem_append]
  exact .inr (.inr (.inr (.inr (.inr (.inr (.inl hn))))))
 obtain ⟨ca, cc, C, hC, iC, c1, c2⟩ := open_row h5 hw5
 obtain ⟨c, pa, pc, ea, ec, hR, iR⟩ := open_riceC h6 hw6
 match cs, hl with
 | [k0, k1, k2, k3, k4, k5, k6, k7, k8, k9], _ =>
  simp [acells3] at e0 e1 e2 e3 e4
  simp [acellsI] at hC
  simp [acellsR] at hR
  obtain ⟨r0, r1, r2, r3⟩ := hR
  subst e0 e1 e2 e3 e4 hC r0 r1 r2 r3
  exact ⟨⟨z0, z1, z2, z3, z4, C, c⟩, ca, cc, pa, pc, ea, ec, rfl, ⟨iC, iR, bounds_i64 q0, bounds_i64 q1, bounds_i64 q2, bounds_i64 q3, bounds_i64 q4⟩, c1, c2⟩
theorem open_subs {fuel : Nat} {cs : List Value} {x : DataW H × List MemPlace} (h : DataW.trod enc Tryz.prog w base (fun _ => true) held fuel 22 cs = some x) (hw : ∀ n ∈ x.1.weights Tryz.prog 22, n <= reachBytes) :
  ∃ (so : OA) (sk : Nat) (S : List Sb), cs = [.slice so S.length sk] /\ SubsAt w so S /\ (S.length <= sk /\ (so = none -> sk = 0)) := by
 rcases open_slice Tryz.underlying22 h with ⟨hcs, _⟩ | ⟨a, len, cap, m, n, D, Pl, hcs, _, hl, hm, hmm, hd, hx⟩
 ·exact ⟨none, 0, [], hcs, ⟨by simp, fun h => by simp at h⟩, by simp, fun _ => rfl⟩
 ·simp only [if_true] at hmm
  subst hmm
  rw [acellsS] at hx
  have hd1 : x.1 = DataW.slice (List.map D (List.range len)) (List.map (fun j => D (len + j)) (List.range (m - len))) := congrArg Prod.fst hd
  rw [hd1] at hw
  simp only [DataW.weights, Tryz.underlying22] at hw
  have hcap : m * 128 <= reachBytes := by
   have := hw _ (List.mem_cons_self)
   rw [abytesS] at this
   simp only [List.length_map, List.length_range] at this
   have e : len + (m - len) = m := by omega
   rwa [e] at this
  simp only [reachBytes] at hcap
  have hall : ∀ i, ∃ s : Sb, i < len -> ∃ (ca : OA) (cc : Nat) (pa : OA) (pc : Nat) (ea : OA) (ec : Nat), (∀ j, j < 10 -> w.cell? (a.add (i * 10 + j)) = ([.int .i64 s.k, .int .i64 s.o, .int .i64 s.w, .int .i64 s.p, .int .i64 s.h, .slice ca s.C.length cc, .int .i64 s.R.m, .int .i64 s.R.o, .slice pa s.R.P.length pc, .slice ea s.R.E.length ec] : List Value)[j]?) /\ SbAt w s ca pa ea /\ s.C.length <= cc /\ (ca = none -> cc = 0) := fun i => by
   by_cases hi : i < len
   ·obtain ⟨cs', h1, h2⟩ := hx i (by omega)
    have hwi : ∀ n ∈ (D i).weights Tryz.prog 67, n <= reachBytes := fun n hn => by
     apply hw
     refine List.mem_cons_of_mem _ ?_
     refine List.mem_append.2 (.inl ?_)
     exact weights_all Tryz.prog 67 _ (D i) (List.mem_map.2 ⟨i, List.mem_range.2 hi, rfl⟩) n hn
    obtain ⟨s, ca, cc, pa, pc, ea, ec, hcs', r1, r2, r3⟩ := open_subC h2 hwi
    obtain ⟨_, hlen, hcell⟩ := World.cells?_some h1
    refine ⟨s, fun _ => ⟨ca, cc, pa, pc, ea, ec, fun j hj => ?_, r1, r2, r3⟩⟩
    have := hcell j hj
    rw [add_add, hcs'] at this
    exact this
   ·exact ⟨Sb0, fun h => absurd h hi⟩
  obtain ⟨f, hf⟩ := Classical.axiomOfChoice hall
  have hlen : ((List.range len).map f).length = len := by simp
  have hget : ∀ i, i < len -> ((List.range len).map f).getD i Sb0 = f i := fun i hi => by simp [List.getD_eq_getElem?_getD, hi]
  refine ⟨some a, m, (List.range len).map f, by rw [hlen]; exact hcs, ⟨by rw [hlen]; omega, fun h0 => ?_⟩, by rw [hlen]; omega, fun e => by cases e⟩
  rw [hlen] at h0
  obtain ⟨ca, cc, pa, pc, ea, ec, hc0, _⟩ := hf 0 h0
  have g0 := hc0 0 (by decide)
  rw [Nat.zero_mul, Nat.zero_add] at g0
  obtain ⟨b, off, rfl⟩ := at_spot g0
  refine ⟨b, off, rfl, fun i hi => ?_⟩
  rw [hlen] at hi
  rw [hget i hi]
  obtain ⟨ca, cc, pa, pc, ea, ec, hc, r1, r2, r3⟩ := hf i hi
  refine ⟨ca, cc, pa, pc, ea, ec, ?_, r1, r2, r3⟩
  have hcell : ∀ j, j < 10 -> w.cell? ⟨b, off + i * 10 + j, none⟩ = ([.int .i64 (f i).k, .int .i64 (f i).o, .int .i64 (f i).w, .int .i64 (f i).p, .int .i64 (f i).h, .slice ca (f i).C.length cc, .int .i64 (f i).R.m, .int .i64 (f i).R.o, .slice pa (f i).R.P.length pc, .slice ea (f i).R.E.length ec] : List Value)[j]? := fun j hj => by
   have := hc j hj
   rw [Addr.add_mid, <- Nat.add_assoc] at this
   exact this
  unfold SubIn
  refine ⟨?_, ?_, ?_, ?_, ?_, ?_, ?_, ?_, ?_, ?_⟩
  ·exact hcell 0 (by decide)
  ·exact hcell 1 (by decide)
  ·exact hcell 2 (by decide)
  ·exact hcell 3 (by decide)
  ·exact hcell 4 (by decide)
  ·exact hcell 5 (by decide)
  ·exact hcell 6 (by decide)
  ·exact hcell 7 (by decide)
  ·exact hcell 8 (by decide)
  ·exact hcell 9 (by decide)
end
end Go.Proofs.YtfpfabmbipmipaaGreatDoor
