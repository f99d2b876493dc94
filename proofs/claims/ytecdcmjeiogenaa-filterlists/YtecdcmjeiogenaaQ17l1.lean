/- Own text: the walk of FilterLists. -/
import Derived.Test.YtecdcmjeiogenaaQ17l0
namespace Go.Proofs.Ytecdcmjeiogenaa
open Go.RowKit
set_option linter.unusedSimpArgs false
set_option linter.unusedVariables false
attribute [local go_sem] Oper.semAt_some
set_option maxRecDepth 20000 in
set_option maxHeartbeats 3200000 in
theorem lists17 {PCh : ChP} (D : Does17 PCh) (level : Int) (l other : List Int) (lo oo : Option Addr) (lc oc : Nat) (w : World) (hl : IntsAt w lo l) (ho : IntsAt w oo other) (hlc : l.length ≤ lc) (hoc : other.length ≤ oc) : Calls Try.prog 3 #[.int .i64 level, .slice lo l.length lc, .slice oo other.length oc] w fun e w' => e = .returned (.bool true) ∧ Below w.heap.size w w' := by
  have HD := hid D
  have HX0 : Hid (AllAt w [(lo, l), (oo, other)] ∧ Below w.heap.size w w) := ⟨AllAt.cons hl (AllAt.cons ho (fun q hq => (by cases hq))), Below.refl _ _⟩
  clear D hl ho
  go_enter Try.func3, Try.ntmps3
  go_wp2_with fail
  refine (HD.out.fwd level l lo lc w (HX0.out.1.get 0 rfl) hlc).mono ?_
  rintro e w1 ⟨a1, c1, rfl, h1, _, hb⟩
  have HX1 : Hid (AllAt w1 [(a1, ansL (allC false level l)), (lo, l), (oo, other)] ∧ Below w.heap.size w w1) := ⟨(AllAt.cons h1 (HX0.out.1.low hb)), below_on HX0.out.2 HX0.out.2.size hb⟩
  clear HX0 hb h1
  go_wp2_with fail
  refine (xforward level l lo lc w1 (HX1.out.1.get 1 rfl)).mono ?_
  rintro e w2 ⟨a2, c2, rfl, h1, hb⟩
  have HX2 : Hid (AllAt w2 [(a2, ansL (allC false level l)), (a1, ansL (allC false level l)), (lo, l), (oo, other)] ∧ Below w.heap.size w w2) := ⟨(AllAt.cons h1 (HX1.out.1.low hb)), below_on HX1.out.2 HX1.out.2.size hb⟩
  clear HX1 hb h1
  go_wp2_with fail
  refine (HD.out.inv level l lo lc w2 (HX2.out.1.get 2 rfl) hlc).mono ?_
  rintro e w3 ⟨a3, c3, rfl, h1, _, hb⟩
  have HX3 : Hid (AllAt w3 [(a3, ansL (allC true level l)), (a2, ansL (allC false level l)), (a1, ansL (allC false level l)), (lo, l), (oo, other)] ∧ Below w.heap.size w w3) := ⟨(AllAt.cons h1 (HX2.out.1.low hb)), below_on HX2.out.2 HX2.out.2.size hb⟩
  clear HX2 hb h1
  go_wp2_with fail
  refine (xinverse level l lo lc w3 (HX3.out.1.get 3 rfl)).mono ?_
  rintro e w4 ⟨a4, c4, rfl, h1, hb⟩
  have HX4 : Hid (AllAt w4 [(a4, ansL (allC true level l)), (a3, ansL (allC true level l)), (a2, ansL (allC false level l)), (a1, ansL (allC false level l)), (lo, l), (oo, other)] ∧ Below w.heap.size w w4) := ⟨(AllAt.cons h1 (HX3.out.1.low hb)), below_on HX3.out.2 HX3.out.2.size hb⟩
  clear HX3 hb h1
  go_wp2_with fail
  refine (HD.out.mid l other lo oo lc oc w4 (HX4.out.1.get 4 rfl) (HX4.out.1.get 5 rfl) hlc hoc).mono ?_
  rintro e w5 ⟨a5, c5, a6, c6, rfl, h1, h2, _, _, hb⟩
  have HX5 : Hid (AllAt w5 [(a5, zipN midN l other (min l.length other.length)), (a6, zipN sidN l other (min l.length other.length)), (a4, ansL (allC true level l)), (a3, ansL (allC true level l)), (a2, ansL (allC false level l)), (a1, ansL (allC false level l)), (lo, l), (oo, other)] ∧ Below w.heap.size w w5) := ⟨(AllAt.cons h1 (AllAt.cons h2 (HX4.out.1.low hb))), below_on HX4.out.2 HX4.out.2.size hb⟩
  clear HX4 hb h1 h2
  go_wp2_with fail
  refine (xmid l other lo oo lc oc w5 (HX5.out.1.get 6 rfl) (HX5.out.1.get 7 rfl)).mono ?_
  rintro e w6 ⟨a7, c7, a8, c8, rfl, h1, h2, hb⟩
  have HX6 : Hid (AllAt w6 [(a7, zipN midN l other (min l.length other.length)), (a8, zipN sidN l other (min l.length other.length)), (a5, zipN midN l other (min l.length other.length)), (a6, zipN sidN l other (min l.length other.length)), (a4, ansL (allC true level l)), (a3, ansL (allC true level l)), (a2, ansL (allC false level l)), (a1, ansL (allC false level l)), (lo, l), (oo, other)] ∧ Below w.heap.size w w6) := ⟨(AllAt.cons h1 (AllAt.cons h2 (HX5.out.1.low hb))), below_on HX5.out.2 HX5.out.2.size hb⟩
  clear HX5 hb h1 h2
  go_wp2_with fail
  refine (HD.out.unmid l other lo oo lc oc w6 (HX6.out.1.get 8 rfl) (HX6.out.1.get 9 rfl) hlc hoc).mono ?_
  rintro e w7 ⟨a9, c9, b1, d1, rfl, h1, h2, _, _, hb⟩
  have HX7 : Hid (AllAt w7 [(a9, zipN unaN l other (min l.length other.length)), (b1, zipN unbN l other (min l.length other.length)), (a7, zipN midN l other (min l.length other.length)), (a8, zipN sidN l other (min l.length other.length)), (a5, zipN midN l other (min l.length other.length)), (a6, zipN sidN l other (min l.length other.length)), (a4, ansL (allC true level l)), (a3, ansL (allC true level l)), (a2, ansL (allC false level l)), (a1, ansL (allC false level l)), (lo, l), (oo, other)] ∧ Below w.heap.size w w7) := ⟨(AllAt.cons h1 (AllAt.cons h2 (HX6.out.1.low hb))), below_on HX6.out.2 HX6.out.2.size hb⟩
  clear HX6 hb h1 h2
  go_wp2_with fail
  refine (xunmid l other lo oo lc oc w7 (HX7.out.1.get 10 rfl) (HX7.out.1.get 11 rfl)).mono ?_
  rintro e w8 ⟨b2, d2, b3, d3, rfl, h1, h2, hb⟩
  have HX8 : Hid (AllAt w8 [(b2, zipN unaN l other (min l.length other.length)), (b3, zipN unbN l other (min l.length other.length)), (a9, zipN unaN l other (min l.length other.length)), (b1, zipN unbN l other (min l.length other.length)), (a7, zipN midN l other (min l.length other.length)), (a8, zipN sidN l other (min l.length other.length)), (a5, zipN midN l other (min l.length other.length)), (a6, zipN sidN l other (min l.length other.length)), (a4, ansL (allC true level l)), (a3, ansL (allC true level l)), (a2, ansL (allC false level l)), (a1, ansL (allC false level l)), (lo, l), (oo, other)] ∧ Below w.heap.size w w8) := ⟨(AllAt.cons h1 (AllAt.cons h2 (HX7.out.1.low hb))), below_on HX7.out.2 HX7.out.2.size hb⟩
  clear HX7 hb h1 h2
  go_wp2_with fail
  generalize ansL (allC false level l) = L1 at *
  generalize ansL (allC true level l) = L2 at *
  generalize ansE (allC false level l) = z1 at *
  generalize ansE (allC true level l) = z2 at *
  generalize zipN midN l other (min l.length other.length) = M1 at *
  generalize zipN sidN l other (min l.length other.length) = M2 at *
  generalize zipN unaN l other (min l.length other.length) = M3 at *
  generalize zipN unbN l other (min l.length other.length) = M4 at *
  refine (same_same (L1) a1 a2 c1 c2 w8 (HX8.out.1.get 11 rfl) (HX8.out.1.get 10 rfl)).mono ?_
  rintro e w9 ⟨rfl, n, hw⟩
  have HX9 : Hid (AllAt w9 [(b2, M3), (b3, M4), (a9, M3), (b1, M4), (a7, M1), (a8, M2), (a5, M1), (a6, M2), (a4, L2), (a3, L2), (a2, L1), (a1, L1), (lo, l), (oo, other)] ∧ Below w.heap.size w w9) := by
    have hb : Below w8.heap.size w8 w9 := by rw [hw]; exact below_drewN _ _
    exact ⟨HX8.out.1.low hb, below_on HX8.out.2 HX8.out.2.size hb⟩
  clear HX8 hw
  go_wp2_with fail
  refine (same_same (L2) a3 a4 c3 c4 w9 (HX9.out.1.get 9 rfl) (HX9.out.1.get 8 rfl)).mono ?_
  rintro e w10 ⟨rfl, n, hw⟩
  have HX10 : Hid (AllAt w10 [(b2, M3), (b3, M4), (a9, M3), (b1, M4), (a7, M1), (a8, M2), (a5, M1), (a6, M2), (a4, L2), (a3, L2), (a2, L1), (a1, L1), (lo, l), (oo, other)] ∧ Below w.heap.size w w10) := by
    have hb : Below w9.heap.size w9 w10 := by rw [hw]; exact below_drewN _ _
    exact ⟨HX9.out.1.low hb, below_on HX9.out.2 HX9.out.2.size hb⟩
  clear HX9 hw
  go_wp2_with fail
  refine (same_same (M1) a5 a7 c5 c7 w10 (HX10.out.1.get 6 rfl) (HX10.out.1.get 4 rfl)).mono ?_
  rintro e w11 ⟨rfl, n, hw⟩
  have HX11 : Hid (AllAt w11 [(b2, M3), (b3, M4), (a9, M3), (b1, M4), (a7, M1), (a8, M2), (a5, M1), (a6, M2), (a4, L2), (a3, L2), (a2, L1), (a1, L1), (lo, l), (oo, other)] ∧ Below w.heap.size w w11) := by
    have hb : Below w10.heap.size w10 w11 := by rw [hw]; exact below_drewN _ _
    exact ⟨HX10.out.1.low hb, below_on HX10.out.2 HX10.out.2.size hb⟩
  clear HX10 hw
  go_wp2_with fail
  refine (same_same (M2) a6 a8 c6 c8 w11 (HX11.out.1.get 7 rfl) (HX11.out.1.get 5 rfl)).mono ?_
  rintro e w12 ⟨rfl, n, hw⟩
  have HX12 : Hid (AllAt w12 [(b2, M3), (b3, M4), (a9, M3), (b1, M4), (a7, M1), (a8, M2), (a5, M1), (a6, M2), (a4, L2), (a3, L2), (a2, L1), (a1, L1), (lo, l), (oo, other)] ∧ Below w.heap.size w w12) := by
    have hb : Below w11.heap.size w11 w12 := by rw [hw]; exact below_drewN _ _
    exact ⟨HX11.out.1.low hb, below_on HX11.out.2 HX11.out.2.size hb⟩
  clear HX11 hw
  go_wp2_with fail
  refine (same_same (M3) a9 b2 c9 d2 w12 (HX12.out.1.get 2 rfl) (HX12.out.1.get 0 rfl)).mono ?_
  rintro e w13 ⟨rfl, n, hw⟩
  have HX13 : Hid (AllAt w13 [(b2, M3), (b3, M4), (a9, M3), (b1, M4), (a7, M1), (a8, M2), (a5, M1), (a6, M2), (a4, L2), (a3, L2), (a2, L1), (a1, L1), (lo, l), (oo, other)] ∧ Below w.heap.size w w13) := by
    have hb : Below w12.heap.size w12 w13 := by rw [hw]; exact below_drewN _ _
    exact ⟨HX12.out.1.low hb, below_on HX12.out.2 HX12.out.2.size hb⟩
  clear HX12 hw
  go_wp2_with fail
  refine (same_same (M4) b1 b3 d1 d3 w13 (HX13.out.1.get 3 rfl) (HX13.out.1.get 1 rfl)).mono ?_
  rintro e w14 ⟨rfl, n, hw⟩
  have HX14 : Hid (AllAt w14 [(b2, M3), (b3, M4), (a9, M3), (b1, M4), (a7, M1), (a8, M2), (a5, M1), (a6, M2), (a4, L2), (a3, L2), (a2, L1), (a1, L1), (lo, l), (oo, other)] ∧ Below w.heap.size w w14) := by
    have hb : Below w13.heap.size w13 w14 := by rw [hw]; exact below_drewN _ _
    exact ⟨HX13.out.1.low hb, below_on HX13.out.2 HX13.out.2.size hb⟩
  clear HX13 hw
  go_wp2_with fail
  refine (awake17 HD.out _).mono ?_
  rintro e wz ⟨rfl, hb⟩
  have HZ : Hid (Below w.heap.size w wz) := below_on HX14.out.2 HX14.out.2.size hb
  clear HX14 hb
  go_wp2_with fail
  go_ret
  exact ⟨rfl, HZ.out⟩

end Go.Proofs.Ytecdcmjeiogenaa
