/- Own text: awake. -/
import Derived.Test.YtpfkaddammfkkaaDoorQ9fix
import Derived.Test.YtpfkaddammfkkaaDoorQ9was
import Derived.Test.YtpfkaddammfkkaaDoorQ9ster
namespace Go.Proofs.YtpfkaddammfkkaaDoor
open Go.RowKit
set_option linter.unusedSimpArgs false
set_option linter.unusedVariables false

theorem two_ints (w : World) (l m : List Int) (hl : l.length ≤ 1000) (hm : m.length ≤ 1000) (hn : Rng l) (hk : Rng m) : IntsAt ((w.alloc (.cells (intsC l).toArray 3)).alloc (.cells (intsC m).toArray 3)) (some ⟨w.heap.size, 0, none⟩) l ∧ IntsAt ((w.alloc (.cells (intsC l).toArray 3)).alloc (.cells (intsC m).toArray 3)) (some ⟨w.heap.size + 1, 0, none⟩) m := by
  refine ⟨(ints_new w l hl hn).below ((Below.refl _ _).alloc (Nat.le_refl _) _), ?_⟩
  have h := ints_new (w.alloc (.cells (intsC l).toArray 3)) m hm hk
  rw [show (w.alloc (.cells (intsC l).toArray 3)).heap.size = w.heap.size + 1 from by simp] at h
  exact h
set_option maxRecDepth 20000 in
set_option maxHeartbeats 1600000 in
theorem awake_spec (w0 : World) (hT : Tz w0) : Calls Tryd.prog 14 #[] w0 fun e w' => e = .returned (.bool true) ∧ Below w0.heap.size w0 w' := by
  have HB0 : Hid (Below w0.heap.size w0 w0) := Below.refl _ _
  have HT : Hid (Tz w0) := hT
  clear hT
  go_enter Tryd.func14, Tryd.ntmps14
  have HAv1 : Hid (Below w0.heap.size w0 (w0.alloc (.cells #[.int .i64 1, .int .i64 2, .int .i64 3, .int .i64 5] 3))) := (Below.refl _ _).alloc (Nat.le_refl _) _
  have HLv1 : Hid (IntsAt (w0.alloc (.cells #[.int .i64 1, .int .i64 2, .int .i64 3, .int .i64 5] 3)) (some ⟨w0.heap.size, 0, none⟩) [1, 2, 3, 5]) := ints_new w0 [1, 2, 3, 5] (by decide) (by decide)
  go_wp2_with fail
  generalize hwv1 : World.alloc _ _ = v1 at *
  clear hwv1
  have HBn : Hid (Below w0.heap.size w0 v1) := HB0.out.trans (HAv1.out.mono HB0.out.size)
  clear HB0
  have HB0 : Hid (Below w0.heap.size w0 v1) := HBn.out
  clear HBn
  have kc := qfixed_spec 2 [1, 2, 3, 5] _ 4 (by decide) v1 HLv1.out
  rw [show fixR 2 [1, 2, 3, 5] = some [0, 1] from by kernel_rfl] at kc
  refine kc.mono ?_
  clear kc
  rintro e v2 ⟨pa, pc, rfl, h1, hb⟩
  have HBn : Hid (Below w0.heap.size w0 v2) := HB0.out.trans (hb.mono HB0.out.size)
  clear HB0
  have HB0 : Hid (Below w0.heap.size w0 v2) := HBn.out
  clear HBn
  clear hb
  have Ip : Hid (IntsAt v2 pa [0, 1]) := h1
  clear h1
  have HAv3 : Hid (Below v2.heap.size v2 ((v2.alloc (.cells #[.int .i64 5] 3)).alloc (.cells #[.int .i64 1, .int .i64 1] 3))) := ((Below.refl _ _).alloc (Nat.le_refl _) _).alloc (by simp) _
  have HLv3 : Hid (IntsAt ((v2.alloc (.cells #[.int .i64 5] 3)).alloc (.cells #[.int .i64 1, .int .i64 1] 3)) (some ⟨v2.heap.size, 0, none⟩) [5]) := (two_ints v2 [5] [1, 1] (by decide) (by decide) (by decide) (by decide)).1
  have HMv3 : Hid (IntsAt ((v2.alloc (.cells #[.int .i64 5] 3)).alloc (.cells #[.int .i64 1, .int .i64 1] 3)) (some ⟨v2.heap.size + 1, 0, none⟩) [1, 1]) := (two_ints v2 [5] [1, 1] (by decide) (by decide) (by decide) (by decide)).2
  go_wp2_with fail
  generalize hwv3 : World.alloc (World.alloc _ _) _ = v3 at *
  clear hwv3
  have HBn : Hid (Below w0.heap.size w0 v3) := HB0.out.trans (HAv3.out.mono HB0.out.size)
  clear HB0
  have HB0 : Hid (Below w0.heap.size w0 v3) := HBn.out
  clear HBn
  have Ipn : Hid (IntsAt v3 pa [0, 1]) := Ip.out.below HAv3.out
  clear Ip
  have Ip : Hid (IntsAt v3 pa [0, 1]) := Ipn.out
  clear Ipn
  have kc := qunfixed_spec 1 [5] [1, 1] _ _ 1 2 (by decide) v3 HLv3.out HMv3.out
  rw [show unfR 1 [5] [1, 1] = some [5, 6, 7] from by kernel_rfl] at kc
  refine kc.mono ?_
  clear kc
  rintro e v4 ⟨qa, qc, rfl, h1, hb⟩
  have HBn : Hid (Below w0.heap.size w0 v4) := HB0.out.trans (hb.mono HB0.out.size)
  clear HB0
  have HB0 : Hid (Below w0.heap.size w0 v4) := HBn.out
  clear HBn
  have Ipn : Hid (IntsAt v4 pa [0, 1]) := Ip.out.below hb
  clear Ip
  have Ip : Hid (IntsAt v4 pa [0, 1]) := Ipn.out
  clear Ipn
  clear hb
  have Iq : Hid (IntsAt v4 qa [5, 6, 7]) := h1
  clear h1
  have HAv5 : Hid (Below v4.heap.size v4 ((v4.alloc (.cells #[.int .i64 2, .int .i64 (-1)] 3)).alloc (.cells #[.int .i64 1, .int .i64 2, .int .i64 3, .int .i64 5] 3))) := ((Below.refl _ _).alloc (Nat.le_refl _) _).alloc (by simp) _
  have HLv5 : Hid (IntsAt ((v4.alloc (.cells #[.int .i64 2, .int .i64 (-1)] 3)).alloc (.cells #[.int .i64 1, .int .i64 2, .int .i64 3, .int .i64 5] 3)) (some ⟨v4.heap.size, 0, none⟩) [2, -1]) := (two_ints v4 [2, -1] [1, 2, 3, 5] (by decide) (by decide) (by decide) (by decide)).1
  have HMv5 : Hid (IntsAt ((v4.alloc (.cells #[.int .i64 2, .int .i64 (-1)] 3)).alloc (.cells #[.int .i64 1, .int .i64 2, .int .i64 3, .int .i64 5] 3)) (some ⟨v4.heap.size + 1, 0, none⟩) [1, 2, 3, 5]) := (two_ints v4 [2, -1] [1, 2, 3, 5] (by decide) (by decide) (by decide) (by decide)).2
  go_wp2_with fail
  generalize hwv5 : World.alloc (World.alloc _ _) _ = v5 at *
  clear hwv5
  have HBn : Hid (Below w0.heap.size w0 v5) := HB0.out.trans (HAv5.out.mono HB0.out.size)
  clear HB0
  have HB0 : Hid (Below w0.heap.size w0 v5) := HBn.out
  clear HBn
  have Ipn : Hid (IntsAt v5 pa [0, 1]) := Ip.out.below HAv5.out
  clear Ip
  have Ip : Hid (IntsAt v5 pa [0, 1]) := Ipn.out
  clear Ipn
  have Iqn : Hid (IntsAt v5 qa [5, 6, 7]) := Iq.out.below HAv5.out
  clear Iq
  have Iq : Hid (IntsAt v5 qa [5, 6, 7]) := Iqn.out
  clear Iqn
  have kc := qlpc_spec [2, -1] [1, 2, 3, 5] 0 _ _ 2 4 (by decide) v5 HLv5.out HMv5.out
  rw [show lpcR [2, -1] 0 [1, 2, 3, 5] = some [0, 1] from by kernel_rfl] at kc
  refine kc.mono ?_
  clear kc
  rintro e v6 ⟨ra, rc, rfl, h1, hb⟩
  have HBn : Hid (Below w0.heap.size w0 v6) := HB0.out.trans (hb.mono HB0.out.size)
  clear HB0
  have HB0 : Hid (Below w0.heap.size w0 v6) := HBn.out
  clear HBn
  have Ipn : Hid (IntsAt v6 pa [0, 1]) := Ip.out.below hb
  clear Ip
  have Ip : Hid (IntsAt v6 pa [0, 1]) := Ipn.out
  clear Ipn
  have Iqn : Hid (IntsAt v6 qa [5, 6, 7]) := Iq.out.below hb
  clear Iq
  have Iq : Hid (IntsAt v6 qa [5, 6, 7]) := Iqn.out
  clear Iqn
  clear hb
  have Ir : Hid (IntsAt v6 ra [0, 1]) := h1
  clear h1
  have HAv7 : Hid (Below v6.heap.size v6 ((v6.alloc (.cells #[.int .i64 3, .int .i64 (-1)] 3)).alloc (.cells #[.int .i64 0, .int .i64 0] 3))) := ((Below.refl _ _).alloc (Nat.le_refl _) _).alloc (by simp) _
  have HLv7 : Hid (IntsAt ((v6.alloc (.cells #[.int .i64 3, .int .i64 (-1)] 3)).alloc (.cells #[.int .i64 0, .int .i64 0] 3)) (some ⟨v6.heap.size, 0, none⟩) [3, -1]) := (two_ints v6 [3, -1] [0, 0] (by decide) (by decide) (by decide) (by decide)).1
  have HMv7 : Hid (IntsAt ((v6.alloc (.cells #[.int .i64 3, .int .i64 (-1)] 3)).alloc (.cells #[.int .i64 0, .int .i64 0] 3)) (some ⟨v6.heap.size + 1, 0, none⟩) [0, 0]) := (two_ints v6 [3, -1] [0, 0] (by decide) (by decide) (by decide) (by decide)).2
  go_wp2_with fail
  generalize hwv7 : World.alloc (World.alloc _ _) _ = v7 at *
  clear hwv7
  have HBn : Hid (Below w0.heap.size w0 v7) := HB0.out.trans (HAv7.out.mono HB0.out.size)
  clear HB0
  have HB0 : Hid (Below w0.heap.size w0 v7) := HBn.out
  clear HBn
  have Ipn : Hid (IntsAt v7 pa [0, 1]) := Ip.out.below HAv7.out
  clear Ip
  have Ip : Hid (IntsAt v7 pa [0, 1]) := Ipn.out
  clear Ipn
  have Iqn : Hid (IntsAt v7 qa [5, 6, 7]) := Iq.out.below HAv7.out
  clear Iq
  have Iq : Hid (IntsAt v7 qa [5, 6, 7]) := Iqn.out
  clear Iqn
  have Irn : Hid (IntsAt v7 ra [0, 1]) := Ir.out.below HAv7.out
  clear Ir
  have Ir : Hid (IntsAt v7 ra [0, 1]) := Irn.out
  clear Irn
  have kc := qstereo_spec 3 [3, -1] [0, 0] _ _ 2 2 v7 HLv7.out HMv7.out
  rw [show stR 3 [3, -1] [0, 0] = some ([1, -1], [3, -1]) from by kernel_rfl] at kc
  refine kc.mono ?_
  clear kc
  rintro e v8 ⟨sa, sc, ta, tc, rfl, h1, h2, hb⟩
  have HBn : Hid (Below w0.heap.size w0 v8) := HB0.out.trans (hb.mono HB0.out.size)
  clear HB0
  have HB0 : Hid (Below w0.heap.size w0 v8) := HBn.out
  clear HBn
  have Ipn : Hid (IntsAt v8 pa [0, 1]) := Ip.out.below hb
  clear Ip
  have Ip : Hid (IntsAt v8 pa [0, 1]) := Ipn.out
  clear Ipn
  have Iqn : Hid (IntsAt v8 qa [5, 6, 7]) := Iq.out.below hb
  clear Iq
  have Iq : Hid (IntsAt v8 qa [5, 6, 7]) := Iqn.out
  clear Iqn
  have Irn : Hid (IntsAt v8 ra [0, 1]) := Ir.out.below hb
  clear Ir
  have Ir : Hid (IntsAt v8 ra [0, 1]) := Irn.out
  clear Irn
  clear hb
  have Is : Hid (IntsAt v8 sa [1, -1]) := h1
  clear h1
  have It : Hid (IntsAt v8 ta [3, -1]) := h2
  clear h2
  have HAv9 : Hid (Below v8.heap.size v8 (v8.alloc (.cells #[.int .i64 0, .int .i64 1] 3))) := (Below.refl _ _).alloc (Nat.le_refl _) _
  have HLv9 : Hid (IntsAt (v8.alloc (.cells #[.int .i64 0, .int .i64 1] 3)) (some ⟨v8.heap.size, 0, none⟩) [0, 1]) := ints_new v8 [0, 1] (by decide) (by decide)
  go_wp2_with fail
  generalize hwv9 : World.alloc _ _ = v9 at *
  clear hwv9
  have HBn : Hid (Below w0.heap.size w0 v9) := HB0.out.trans (HAv9.out.mono HB0.out.size)
  clear HB0
  have HB0 : Hid (Below w0.heap.size w0 v9) := HBn.out
  clear HBn
  have Ipn : Hid (IntsAt v9 pa [0, 1]) := Ip.out.below HAv9.out
  clear Ip
  have Ip : Hid (IntsAt v9 pa [0, 1]) := Ipn.out
  clear Ipn
  have Iqn : Hid (IntsAt v9 qa [5, 6, 7]) := Iq.out.below HAv9.out
  clear Iq
  have Iq : Hid (IntsAt v9 qa [5, 6, 7]) := Iqn.out
  clear Iqn
  have Irn : Hid (IntsAt v9 ra [0, 1]) := Ir.out.below HAv9.out
  clear Ir
  have Ir : Hid (IntsAt v9 ra [0, 1]) := Irn.out
  clear Irn
  have Isn : Hid (IntsAt v9 sa [1, -1]) := Is.out.below HAv9.out
  clear Is
  have Is : Hid (IntsAt v9 sa [1, -1]) := Isn.out
  clear Isn
  have Itn : Hid (IntsAt v9 ta [3, -1]) := It.out.below HAv9.out
  clear It
  have It : Hid (IntsAt v9 ta [3, -1]) := Itn.out
  clear Itn
  refine (same_same [0, 1] _ _ pc 2 v9 Ip.out HLv9.out).mono ?_
  rintro e v10 ⟨rfl, nn, hq⟩
  have hb : Below v9.heap.size v9 v10 := by rw [hq]; exact below_drewN _ _
  clear hq
  have HBn : Hid (Below w0.heap.size w0 v10) := HB0.out.trans (hb.mono HB0.out.size)
  clear HB0
  have HB0 : Hid (Below w0.heap.size w0 v10) := HBn.out
  clear HBn
  have Ipn : Hid (IntsAt v10 pa [0, 1]) := Ip.out.below hb
  clear Ip
  have Ip : Hid (IntsAt v10 pa [0, 1]) := Ipn.out
  clear Ipn
  have Iqn : Hid (IntsAt v10 qa [5, 6, 7]) := Iq.out.below hb
  clear Iq
  have Iq : Hid (IntsAt v10 qa [5, 6, 7]) := Iqn.out
  clear Iqn
  have Irn : Hid (IntsAt v10 ra [0, 1]) := Ir.out.below hb
  clear Ir
  have Ir : Hid (IntsAt v10 ra [0, 1]) := Irn.out
  clear Irn
  have Isn : Hid (IntsAt v10 sa [1, -1]) := Is.out.below hb
  clear Is
  have Is : Hid (IntsAt v10 sa [1, -1]) := Isn.out
  clear Isn
  have Itn : Hid (IntsAt v10 ta [3, -1]) := It.out.below hb
  clear It
  have It : Hid (IntsAt v10 ta [3, -1]) := Itn.out
  clear Itn
  clear hb
  have HAv11 : Hid (Below v10.heap.size v10 (v10.alloc (.cells #[.int .i64 5, .int .i64 6, .int .i64 7] 3))) := (Below.refl _ _).alloc (Nat.le_refl _) _
  have HLv11 : Hid (IntsAt (v10.alloc (.cells #[.int .i64 5, .int .i64 6, .int .i64 7] 3)) (some ⟨v10.heap.size, 0, none⟩) [5, 6, 7]) := ints_new v10 [5, 6, 7] (by decide) (by decide)
  go_wp2_with fail
  generalize hwv11 : World.alloc _ _ = v11 at *
  clear hwv11
  have HBn : Hid (Below w0.heap.size w0 v11) := HB0.out.trans (HAv11.out.mono HB0.out.size)
  clear HB0
  have HB0 : Hid (Below w0.heap.size w0 v11) := HBn.out
  clear HBn
  have Ipn : Hid (IntsAt v11 pa [0, 1]) := Ip.out.below HAv11.out
  clear Ip
  have Ip : Hid (IntsAt v11 pa [0, 1]) := Ipn.out
  clear Ipn
  have Iqn : Hid (IntsAt v11 qa [5, 6, 7]) := Iq.out.below HAv11.out
  clear Iq
  have Iq : Hid (IntsAt v11 qa [5, 6, 7]) := Iqn.out
  clear Iqn
  have Irn : Hid (IntsAt v11 ra [0, 1]) := Ir.out.below HAv11.out
  clear Ir
  have Ir : Hid (IntsAt v11 ra [0, 1]) := Irn.out
  clear Irn
  have Isn : Hid (IntsAt v11 sa [1, -1]) := Is.out.below HAv11.out
  clear Is
  have Is : Hid (IntsAt v11 sa [1, -1]) := Isn.out
  clear Isn
  have Itn : Hid (IntsAt v11 ta [3, -1]) := It.out.below HAv11.out
  clear It
  have It : Hid (IntsAt v11 ta [3, -1]) := Itn.out
  clear Itn
  refine (same_same [5, 6, 7] _ _ qc 3 v11 Iq.out HLv11.out).mono ?_
  rintro e v12 ⟨rfl, nn, hq⟩
  have hb : Below v11.heap.size v11 v12 := by rw [hq]; exact below_drewN _ _
  clear hq
  have HBn : Hid (Below w0.heap.size w0 v12) := HB0.out.trans (hb.mono HB0.out.size)
  clear HB0
  have HB0 : Hid (Below w0.heap.size w0 v12) := HBn.out
  clear HBn
  have Ipn : Hid (IntsAt v12 pa [0, 1]) := Ip.out.below hb
  clear Ip
  have Ip : Hid (IntsAt v12 pa [0, 1]) := Ipn.out
  clear Ipn
  have Iqn : Hid (IntsAt v12 qa [5, 6, 7]) := Iq.out.below hb
  clear Iq
  have Iq : Hid (IntsAt v12 qa [5, 6, 7]) := Iqn.out
  clear Iqn
  have Irn : Hid (IntsAt v12 ra [0, 1]) := Ir.out.below hb
  clear Ir
  have Ir : Hid (IntsAt v12 ra [0, 1]) := Irn.out
  clear Irn
  have Isn : Hid (IntsAt v12 sa [1, -1]) := Is.out.below hb
  clear Is
  have Is : Hid (IntsAt v12 sa [1, -1]) := Isn.out
  clear Isn
  have Itn : Hid (IntsAt v12 ta [3, -1]) := It.out.below hb
  clear It
  have It : Hid (IntsAt v12 ta [3, -1]) := Itn.out
  clear Itn
  clear hb
  go_wp2_with fail
  refine (same_same [0, 1] _ _ rc pc v12 Ir.out Ip.out).mono ?_
  rintro e v13 ⟨rfl, nn, hq⟩
  have hb : Below v12.heap.size v12 v13 := by rw [hq]; exact below_drewN _ _
  clear hq
  have HBn : Hid (Below w0.heap.size w0 v13) := HB0.out.trans (hb.mono HB0.out.size)
  clear HB0
  have HB0 : Hid (Below w0.heap.size w0 v13) := HBn.out
  clear HBn
  have Ipn : Hid (IntsAt v13 pa [0, 1]) := Ip.out.below hb
  clear Ip
  have Ip : Hid (IntsAt v13 pa [0, 1]) := Ipn.out
  clear Ipn
  have Iqn : Hid (IntsAt v13 qa [5, 6, 7]) := Iq.out.below hb
  clear Iq
  have Iq : Hid (IntsAt v13 qa [5, 6, 7]) := Iqn.out
  clear Iqn
  have Irn : Hid (IntsAt v13 ra [0, 1]) := Ir.out.below hb
  clear Ir
  have Ir : Hid (IntsAt v13 ra [0, 1]) := Irn.out
  clear Irn
  have Isn : Hid (IntsAt v13 sa [1, -1]) := Is.out.below hb
  clear Is
  have Is : Hid (IntsAt v13 sa [1, -1]) := Isn.out
  clear Isn
  have Itn : Hid (IntsAt v13 ta [3, -1]) := It.out.below hb
  clear It
  have It : Hid (IntsAt v13 ta [3, -1]) := Itn.out
  clear Itn
  clear hb
  have HAv14 : Hid (Below v13.heap.size v13 (v13.alloc (.cells #[.int .i64 1, .int .i64 (-1)] 3))) := (Below.refl _ _).alloc (Nat.le_refl _) _
  have HLv14 : Hid (IntsAt (v13.alloc (.cells #[.int .i64 1, .int .i64 (-1)] 3)) (some ⟨v13.heap.size, 0, none⟩) [1, -1]) := ints_new v13 [1, -1] (by decide) (by decide)
  go_wp2_with fail
  generalize hwv14 : World.alloc _ _ = v14 at *
  clear hwv14
  have HBn : Hid (Below w0.heap.size w0 v14) := HB0.out.trans (HAv14.out.mono HB0.out.size)
  clear HB0
  have HB0 : Hid (Below w0.heap.size w0 v14) := HBn.out
  clear HBn
  have Ipn : Hid (IntsAt v14 pa [0, 1]) := Ip.out.below HAv14.out
  clear Ip
  have Ip : Hid (IntsAt v14 pa [0, 1]) := Ipn.out
  clear Ipn
  have Iqn : Hid (IntsAt v14 qa [5, 6, 7]) := Iq.out.below HAv14.out
  clear Iq
  have Iq : Hid (IntsAt v14 qa [5, 6, 7]) := Iqn.out
  clear Iqn
  have Irn : Hid (IntsAt v14 ra [0, 1]) := Ir.out.below HAv14.out
  clear Ir
  have Ir : Hid (IntsAt v14 ra [0, 1]) := Irn.out
  clear Irn
  have Isn : Hid (IntsAt v14 sa [1, -1]) := Is.out.below HAv14.out
  clear Is
  have Is : Hid (IntsAt v14 sa [1, -1]) := Isn.out
  clear Isn
  have Itn : Hid (IntsAt v14 ta [3, -1]) := It.out.below HAv14.out
  clear It
  have It : Hid (IntsAt v14 ta [3, -1]) := Itn.out
  clear Itn
  refine (same_same [1, -1] _ _ sc 2 v14 Is.out HLv14.out).mono ?_
  rintro e v15 ⟨rfl, nn, hq⟩
  have hb : Below v14.heap.size v14 v15 := by rw [hq]; exact below_drewN _ _
  clear hq
  have HBn : Hid (Below w0.heap.size w0 v15) := HB0.out.trans (hb.mono HB0.out.size)
  clear HB0
  have HB0 : Hid (Below w0.heap.size w0 v15) := HBn.out
  clear HBn
  have Ipn : Hid (IntsAt v15 pa [0, 1]) := Ip.out.below hb
  clear Ip
  have Ip : Hid (IntsAt v15 pa [0, 1]) := Ipn.out
  clear Ipn
  have Iqn : Hid (IntsAt v15 qa [5, 6, 7]) := Iq.out.below hb
  clear Iq
  have Iq : Hid (IntsAt v15 qa [5, 6, 7]) := Iqn.out
  clear Iqn
  have Irn : Hid (IntsAt v15 ra [0, 1]) := Ir.out.below hb
  clear Ir
  have Ir : Hid (IntsAt v15 ra [0, 1]) := Irn.out
  clear Irn
  have Isn : Hid (IntsAt v15 sa [1, -1]) := Is.out.below hb
  clear Is
  have Is : Hid (IntsAt v15 sa [1, -1]) := Isn.out
  clear Isn
  have Itn : Hid (IntsAt v15 ta [3, -1]) := It.out.below hb
  clear It
  have It : Hid (IntsAt v15 ta [3, -1]) := Itn.out
  clear Itn
  clear hb
  have HAv16 : Hid (Below v15.heap.size v15 (v15.alloc (.cells #[.int .i64 3, .int .i64 (-1)] 3))) := (Below.refl _ _).alloc (Nat.le_refl _) _
  have HLv16 : Hid (IntsAt (v15.alloc (.cells #[.int .i64 3, .int .i64 (-1)] 3)) (some ⟨v15.heap.size, 0, none⟩) [3, -1]) := ints_new v15 [3, -1] (by decide) (by decide)
  go_wp2_with fail
  generalize hwv16 : World.alloc _ _ = v16 at *
  clear hwv16
  have HBn : Hid (Below w0.heap.size w0 v16) := HB0.out.trans (HAv16.out.mono HB0.out.size)
  clear HB0
  have HB0 : Hid (Below w0.heap.size w0 v16) := HBn.out
  clear HBn
  have Ipn : Hid (IntsAt v16 pa [0, 1]) := Ip.out.below HAv16.out
  clear Ip
  have Ip : Hid (IntsAt v16 pa [0, 1]) := Ipn.out
  clear Ipn
  have Iqn : Hid (IntsAt v16 qa [5, 6, 7]) := Iq.out.below HAv16.out
  clear Iq
  have Iq : Hid (IntsAt v16 qa [5, 6, 7]) := Iqn.out
  clear Iqn
  have Irn : Hid (IntsAt v16 ra [0, 1]) := Ir.out.below HAv16.out
  clear Ir
  have Ir : Hid (IntsAt v16 ra [0, 1]) := Irn.out
  clear Irn
  have Isn : Hid (IntsAt v16 sa [1, -1]) := Is.out.below HAv16.out
  clear Is
  have Is : Hid (IntsAt v16 sa [1, -1]) := Isn.out
  clear Isn
  have Itn : Hid (IntsAt v16 ta [3, -1]) := It.out.below HAv16.out
  clear It
  have It : Hid (IntsAt v16 ta [3, -1]) := Itn.out
  clear Itn
  refine (same_same [3, -1] _ _ tc 2 v16 It.out HLv16.out).mono ?_
  rintro e v17 ⟨rfl, nn, hq⟩
  have hb : Below v16.heap.size v16 v17 := by rw [hq]; exact below_drewN _ _
  clear hq
  have HBn : Hid (Below w0.heap.size w0 v17) := HB0.out.trans (hb.mono HB0.out.size)
  clear HB0
  have HB0 : Hid (Below w0.heap.size w0 v17) := HBn.out
  clear HBn
  have Ipn : Hid (IntsAt v17 pa [0, 1]) := Ip.out.below hb
  clear Ip
  have Ip : Hid (IntsAt v17 pa [0, 1]) := Ipn.out
  clear Ipn
  have Iqn : Hid (IntsAt v17 qa [5, 6, 7]) := Iq.out.below hb
  clear Iq
  have Iq : Hid (IntsAt v17 qa [5, 6, 7]) := Iqn.out
  clear Iqn
  have Irn : Hid (IntsAt v17 ra [0, 1]) := Ir.out.below hb
  clear Ir
  have Ir : Hid (IntsAt v17 ra [0, 1]) := Irn.out
  clear Irn
  have Isn : Hid (IntsAt v17 sa [1, -1]) := Is.out.below hb
  clear Is
  have Is : Hid (IntsAt v17 sa [1, -1]) := Isn.out
  clear Isn
  have Itn : Hid (IntsAt v17 ta [3, -1]) := It.out.below hb
  clear It
  have It : Hid (IntsAt v17 ta [3, -1]) := Itn.out
  clear Itn
  clear hb
  have HAv18 : Hid (Below v17.heap.size v17 (v17.alloc (.cells #[.int .i64 4, .int .i64 8, .int .i64 (-12)] 3))) := (Below.refl _ _).alloc (Nat.le_refl _) _
  have HLv18 : Hid (IntsAt (v17.alloc (.cells #[.int .i64 4, .int .i64 8, .int .i64 (-12)] 3)) (some ⟨v17.heap.size, 0, none⟩) [4, 8, -12]) := ints_new v17 [4, 8, -12] (by decide) (by decide)
  go_wp2_with fail
  generalize hwv18 : World.alloc _ _ = v18 at *
  clear hwv18
  have HBn : Hid (Below w0.heap.size w0 v18) := HB0.out.trans (HAv18.out.mono HB0.out.size)
  clear HB0
  have HB0 : Hid (Below w0.heap.size w0 v18) := HBn.out
  clear HBn
  have Ipn : Hid (IntsAt v18 pa [0, 1]) := Ip.out.below HAv18.out
  clear Ip
  have Ip : Hid (IntsAt v18 pa [0, 1]) := Ipn.out
  clear Ipn
  have Iqn : Hid (IntsAt v18 qa [5, 6, 7]) := Iq.out.below HAv18.out
  clear Iq
  have Iq : Hid (IntsAt v18 qa [5, 6, 7]) := Iqn.out
  clear Iqn
  have Irn : Hid (IntsAt v18 ra [0, 1]) := Ir.out.below HAv18.out
  clear Ir
  have Ir : Hid (IntsAt v18 ra [0, 1]) := Irn.out
  clear Irn
  have Isn : Hid (IntsAt v18 sa [1, -1]) := Is.out.below HAv18.out
  clear Is
  have Is : Hid (IntsAt v18 sa [1, -1]) := Isn.out
  clear Isn
  have Itn : Hid (IntsAt v18 ta [3, -1]) := It.out.below HAv18.out
  clear It
  have It : Hid (IntsAt v18 ta [3, -1]) := Itn.out
  clear Itn
  have kc := qwasted_spec [4, 8, -12] _ 3 v18 (HT.out.below HB0.out) HLv18.out
  rw [show wasN [4, 8, -12] = 2 from by kernel_rfl] at kc
  refine kc.mono ?_
  rintro e vz ⟨rfl, hb⟩
  have HBn : Hid (Below w0.heap.size w0 vz) := HB0.out.trans (hb.mono HB0.out.size)
  clear HB0
  have HB0 : Hid (Below w0.heap.size w0 vz) := HBn.out
  clear HBn
  have Ipn : Hid (IntsAt vz pa [0, 1]) := Ip.out.below hb
  clear Ip
  have Ip : Hid (IntsAt vz pa [0, 1]) := Ipn.out
  clear Ipn
  have Iqn : Hid (IntsAt vz qa [5, 6, 7]) := Iq.out.below hb
  clear Iq
  have Iq : Hid (IntsAt vz qa [5, 6, 7]) := Iqn.out
  clear Iqn
  have Irn : Hid (IntsAt vz ra [0, 1]) := Ir.out.below hb
  clear Ir
  have Ir : Hid (IntsAt vz ra [0, 1]) := Irn.out
  clear Irn
  have Isn : Hid (IntsAt vz sa [1, -1]) := Is.out.below hb
  clear Is
  have Is : Hid (IntsAt vz sa [1, -1]) := Isn.out
  clear Isn
  have Itn : Hid (IntsAt vz ta [3, -1]) := It.out.below hb
  clear It
  have It : Hid (IntsAt vz ta [3, -1]) := Itn.out
  clear Itn
  clear hb kc
  go_wp2_with fail
  go_ret
  exact ⟨rfl, HB0.out⟩

end Go.Proofs.YtpfkaddammfkkaaDoor
