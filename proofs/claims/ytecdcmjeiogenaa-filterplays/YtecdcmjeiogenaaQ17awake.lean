/- Own text: awake. -/
import Derived.Test.YtecdcmjeiogenaaQ17does
namespace Go.Proofs.Ytecdcmjeiogenaa
open Go.RowKit
set_option linter.unusedSimpArgs false
set_option linter.unusedVariables false
attribute [local go_sem] Oper.semAt_some

/-- What awake has made. -/
structure AwK (w X : World) (la lb lm ls : Option Addr) : Prop where
  a : IntsAt X la [32, 1]
  b : IntsAt X lb [32, 32]
  m : IntsAt X lm [1, -1]
  s : IntsAt X ls [3, -1]
  bl : Below w.heap.size w X
theorem AwK.low {w X X' : World} {la lb lm ls : Option Addr} (h : AwK w X la lb lm ls) (hb : Below X.heap.size X X') : AwK w X' la lb lm ls := ⟨h.a.below hb, h.b.below hb, h.m.below hb, h.s.below hb, below_on h.bl h.bl.size hb⟩
set_option maxRecDepth 20000 in
set_option maxHeartbeats 3200000 in
theorem awake17 {PCh : ChP} (D : Does17 PCh) (w : World) : Calls Try.prog 17 #[] w fun e w' => e = .returned (.bool true) ∧ Below w.heap.size w w' := by
  have HD := hid D
  clear D
  go_enter Try.func17, Try.ntmps17
  go_wp2_with fail
  have k1 := HD.out.fwd 1 [32, 32] (some ⟨w.heap.size, 0, none⟩) 2 (w.alloc (.cells #[.int .i64 32, .int .i64 32] 3)) (two_ints w 32 32 (by unfold In64; omega) (by unfold In64; omega)) (Nat.le_refl 2)
  rw [ex_f] at k1
  refine k1.mono ?_
  clear k1
  rintro e wA ⟨la, lca, rfl, hia, hca, hba⟩
  have HA : Hid (IntsAt wA la [32, 1] ∧ 2 ≤ lca ∧ Below w.heap.size w wA) := ⟨hia, hca, below_on (below_new w _) (by simp) hba⟩
  clear hia hca hba
  go_wp2_with fail
  have k2 := HD.out.inv 1 [32, 1] la lca wA HA.out.1 HA.out.2.1
  rw [ex_i] at k2
  refine k2.mono ?_
  clear k2
  rintro e wB ⟨lb, lcb, rfl, hib, hcb, hbb⟩
  have HB : Hid (IntsAt wB la [32, 1] ∧ IntsAt wB lb [32, 32] ∧ Below w.heap.size w wB) := ⟨HA.out.1.below hbb, hib, below_on HA.out.2.2 HA.out.2.2.size hbb⟩
  clear HA hib hcb hbb
  go_wp2_with fail
  have e1 : (wB.alloc (.cells #[.int .i64 3, .int .i64 (-1)] 3)).heap.size = wB.heap.size + 1 := by simp
  have i2 := two_ints (wB.alloc (.cells #[.int .i64 3, .int .i64 (-1)] 3)) 0 0 (by unfold In64; omega) (by unfold In64; omega)
  have hbl : Below wB.heap.size wB ((wB.alloc (.cells #[.int .i64 3, .int .i64 (-1)] 3)).alloc (.cells #[.int .i64 0, .int .i64 0] 3)) := (below_new _ _).trans (below_on (Below.refl _ _) (by simp) (below_new _ _))
  rw [e1] at i2
  have k3 := HD.out.mid [3, -1] [0, 0] (some ⟨wB.heap.size, 0, none⟩) (some ⟨wB.heap.size + 1, 0, none⟩) 2 2 ((wB.alloc (.cells #[.int .i64 3, .int .i64 (-1)] 3)).alloc (.cells #[.int .i64 0, .int .i64 0] 3)) ((two_ints wB 3 (-1) (by unfold In64; omega) (by unfold In64; omega)).below (below_new _ _)) i2 (Nat.le_refl 2) (Nat.le_refl 2)
  have e2 : min ([3, -1] : List Int).length ([0, 0] : List Int).length = 2 := rfl
  rw [e2, ex_m.1, ex_m.2] at k3
  refine k3.mono ?_
  clear k3 e1 e2 i2
  rintro e wC ⟨lm, lcm, ls, lcs, rfl, him, his, _, _, hbc⟩
  have HC : Hid (AwK w wC la lb lm ls) := by
    have hb2 := below_on hbl hbl.size hbc
    exact ⟨HB.out.1.below hb2, HB.out.2.1.below hb2, him, his, below_on HB.out.2.2 HB.out.2.2.size hb2⟩
  clear HB him his hbc hbl
  go_wp2_with fail
  have k4 := HD.out.fwd 3 [] none 0 wC (IntsAt.nil wC) (Nat.le_refl 0)
  rw [ex_n.1] at k4
  refine k4.mono ?_
  clear k4
  rintro e wD ⟨ld, lcd, rfl, _, _, hbd⟩
  have HE := hid (HC.out.low hbd)
  clear HC hbd
  go_wp2_with fail
  have hsm := same_same [32, 1] la (some ⟨wD.heap.size, 0, none⟩) lca 2 (wD.alloc (.cells #[.int .i64 (32), .int .i64 (1)] 3)) (HE.out.a.below (below_new _ _)) (two_ints wD (32) (1) (by unfold In64; omega) (by unfold In64; omega))
  refine hsm.mono ?_
  clear hsm
  rintro e w9 ⟨rfl, n, rfl⟩
  have HF := hid (HE.out.low ((below_new wD (.cells #[.int .i64 (32), .int .i64 (1)] 3)).trans (below_on (Below.refl _ _) (by simp) (below_drewN _ n))))
  generalize (wD.alloc (.cells #[.int .i64 (32), .int .i64 (1)] 3)).drewN n = wE at *
  clear HE
  go_wp2_with fail
  have hsm := same_same [32, 32] lb (some ⟨wE.heap.size, 0, none⟩) lcb 2 (wE.alloc (.cells #[.int .i64 (32), .int .i64 (32)] 3)) (HF.out.b.below (below_new _ _)) (two_ints wE (32) (32) (by unfold In64; omega) (by unfold In64; omega))
  refine hsm.mono ?_
  clear hsm
  rintro e w9 ⟨rfl, n, rfl⟩
  have HG := hid (HF.out.low ((below_new wE (.cells #[.int .i64 (32), .int .i64 (32)] 3)).trans (below_on (Below.refl _ _) (by simp) (below_drewN _ n))))
  generalize (wE.alloc (.cells #[.int .i64 (32), .int .i64 (32)] 3)).drewN n = wF at *
  clear HF
  go_wp2_with fail
  have hsm := same_same [1, -1] lm (some ⟨wF.heap.size, 0, none⟩) lcm 2 (wF.alloc (.cells #[.int .i64 (1), .int .i64 (-1)] 3)) (HG.out.m.below (below_new _ _)) (two_ints wF (1) (-1) (by unfold In64; omega) (by unfold In64; omega))
  refine hsm.mono ?_
  clear hsm
  rintro e w9 ⟨rfl, n, rfl⟩
  have HH := hid (HG.out.low ((below_new wF (.cells #[.int .i64 (1), .int .i64 (-1)] 3)).trans (below_on (Below.refl _ _) (by simp) (below_drewN _ n))))
  generalize (wF.alloc (.cells #[.int .i64 (1), .int .i64 (-1)] 3)).drewN n = wG at *
  clear HG
  go_wp2_with fail
  have hsm := same_same [3, -1] ls (some ⟨wG.heap.size, 0, none⟩) lcs 2 (wG.alloc (.cells #[.int .i64 (3), .int .i64 (-1)] 3)) (HH.out.s.below (below_new _ _)) (two_ints wG (3) (-1) (by unfold In64; omega) (by unfold In64; omega))
  refine hsm.mono ?_
  clear hsm
  rintro e w9 ⟨rfl, n, rfl⟩
  have HI := hid (HH.out.low ((below_new wG (.cells #[.int .i64 (3), .int .i64 (-1)] 3)).trans (below_on (Below.refl _ _) (by simp) (below_drewN _ n))))
  generalize (wG.alloc (.cells #[.int .i64 (3), .int .i64 (-1)] 3)).drewN n = wH at *
  clear HH
  go_wp2_with fail
  refine (HD.out.nonew 3 _ ex_n.2).mono ?_
  rintro e wI ⟨rfl, hbi⟩
  have HZ := hid (HI.out.low hbi)
  clear HI hbi
  go_wp2_with fail
  go_ret
  exact ⟨rfl, HZ.out.bl⟩

end Go.Proofs.Ytecdcmjeiogenaa
