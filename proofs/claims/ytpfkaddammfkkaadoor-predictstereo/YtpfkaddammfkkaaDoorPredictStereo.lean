/-
  PredictStereo: two channels in any mode, and back, are what the document says. No condition.
-/
import Derived.Test.YtpfkaddammfkkaaDoorQ9awake
import Derived.Test.YtpfkaddammfkkaaDoorQ9shift
import Derived.Test.YtpfkaddammfkkaaDoorQ9laid
import Derived.Test.YtpfkaddammfkkaaDoorP9args
import Derived.Test.YtpfkaddammfkkaaDoorR9unst
import Derived.Test.YtpfkaddammfkkaaDoorR9ster
import Derived.Test.YtpfkaddammfkkaaDoorCards
import Derived.Test.YtpfkaddammfkkaaDoorTie
import Derived.WalkKit
import Derived.ProofKit
import Derived.OpenShut
import Derived.ShutString
import Derived.ChangeOld
import Derived.Below
import Derived.SizedLaws
import Derived.Carry
namespace Go.Proofs.YtpfkaddammfkkaaDoor.predictStereo
open Go.ChangeShapes Go.WideShapes Go.ChangeAt Go.RowKit
open Go.ChangeMaps (open_string shut_string)
set_option linter.unusedSimpArgs false
set_option linter.unusedVariables false

theorem own : ownKnob Tryd.prog.godebug = none := by kernel_rfl
theorem laidOut : laidOutB Tryd.prog = true := by kernel_rfl

set_option maxRecDepth 20000 in
set_option maxHeartbeats 3200000 in
theorem walk (mode : Int) (mode1 : -9223372036854775808 ≤ mode) (mode2 : mode ≤ 9223372036854775807) (a : List Int) (ao : Option Addr) (ac : Nat) (hac : a.length ≤ ac) (ha0 : ao = none → ac = 0) (ha9 : a.length ≤ 17592186043904) (b : List Int) (bo : Option Addr) (bc : Nat) (hbc : b.length ≤ bc) (hb0 : bo = none → bc = 0) (hb9 : b.length ≤ 17592186043904) (w : World) (ra : IntsAt w ao a) (rb : IntsAt w bo b) (hT : Tz w) :
    Calls Tryd.prog 6 #[.int .i64 mode, .slice ao a.length ac, .slice bo b.length bc] w fun e w' => e = .returned (.bool true) ∧ Below w.heap.size w w' := by

  have KAw : Hid (∀ wx, Below w.heap.size w wx → Calls Tryd.prog 14 #[] wx fun e w' => e = .returned (.bool true) ∧ Below wx.heap.size wx w') := fun wx hb => awake_spec wx (hT.below hb)
  have HT0 : Hid (Tz w) := hT
  clear hT
  have HB0 : Hid (Below w.heap.size w w) := Below.refl _ _
  have Ia : Hid (IntsAt w ao a) := ra
  clear ra
  have Ib : Hid (IntsAt w bo b) := rb
  clear rb
  obtain ⟨A, hA⟩ : ∃ A, A = stR mode a b := ⟨_, rfl⟩
  have SAP : Hid (∀ wx, IntsAt wx ao a → IntsAt wx bo b → Calls Tryd.prog 25 #[.int .i64 mode, .slice ao a.length ac, .slice bo b.length bc] wx (Ret3 A wx)) := fun wx g0 g1 => by rw [hA]; exact qstereo_spec mode a b ao bo ac bc wx g0 g1
  have SAX : Hid (∀ wx, IntsAt wx ao a → IntsAt wx bo b → Calls Tryd.prog 26 #[.int .i64 mode, .slice ao a.length ac, .slice bo b.length bc] wx (Ret3 A wx)) := fun wx g0 g1 => by rw [hA]; exact xstereo_spec mode a b ao bo ac bc wx g0 g1
  clear hA
  obtain ⟨B, hB⟩ : ∃ B, B = ustR mode a b := ⟨_, rfl⟩
  have SBP : Hid (∀ wx, IntsAt wx ao a → IntsAt wx bo b → Calls Tryd.prog 27 #[.int .i64 mode, .slice ao a.length ac, .slice bo b.length bc] wx (Ret3 B wx)) := fun wx g0 g1 => by rw [hB]; exact qunstereo_spec mode a b ao bo ac bc wx g0 g1
  have SBX : Hid (∀ wx, IntsAt wx ao a → IntsAt wx bo b → Calls Tryd.prog 28 #[.int .i64 mode, .slice ao a.length ac, .slice bo b.length bc] wx (Ret3 B wx)) := fun wx g0 g1 => by rw [hB]; exact xunstereo_spec mode a b ao bo ac bc wx g0 g1
  clear hB
  go_enter Tryd.func6, Tryd.ntmps6
  go_wp2_with fail
  refine (SAP.out w Ia.out Ib.out).mono ?_
  rintro e v1 ⟨pa, pc, qa, qc, rfl, h1, h2, hb⟩
  have HBn : Hid (Below w.heap.size w v1) := HB0.out.trans (hb.mono HB0.out.size)
  clear HB0
  have HB0 : Hid (Below w.heap.size w v1) := HBn.out
  clear HBn
  have Ian : Hid (IntsAt v1 ao a) := Ia.out.below hb
  clear Ia
  have Ia : Hid (IntsAt v1 ao a) := Ian.out
  clear Ian
  have Ibn : Hid (IntsAt v1 bo b) := Ib.out.below hb
  clear Ib
  have Ib : Hid (IntsAt v1 bo b) := Ibn.out
  clear Ibn
  clear hb
  have Ip : Hid (IntsAt v1 pa (ansL (A.map Prod.fst))) := h1
  have Iq : Hid (IntsAt v1 qa (ansL (A.map Prod.snd))) := h2
  clear h1 h2
  go_wp2_with fail
  refine (SAX.out v1 Ia.out Ib.out).mono ?_
  rintro e v2 ⟨ra, rc, sa, sc, rfl, h1, h2, hb⟩
  have HBn : Hid (Below w.heap.size w v2) := HB0.out.trans (hb.mono HB0.out.size)
  clear HB0
  have HB0 : Hid (Below w.heap.size w v2) := HBn.out
  clear HBn
  have Ian : Hid (IntsAt v2 ao a) := Ia.out.below hb
  clear Ia
  have Ia : Hid (IntsAt v2 ao a) := Ian.out
  clear Ian
  have Ibn : Hid (IntsAt v2 bo b) := Ib.out.below hb
  clear Ib
  have Ib : Hid (IntsAt v2 bo b) := Ibn.out
  clear Ibn
  have Ipn : Hid (IntsAt v2 pa (ansL (A.map Prod.fst))) := Ip.out.below hb
  clear Ip
  have Ip : Hid (IntsAt v2 pa (ansL (A.map Prod.fst))) := Ipn.out
  clear Ipn
  have Iqn : Hid (IntsAt v2 qa (ansL (A.map Prod.snd))) := Iq.out.below hb
  clear Iq
  have Iq : Hid (IntsAt v2 qa (ansL (A.map Prod.snd))) := Iqn.out
  clear Iqn
  clear hb
  have Ir : Hid (IntsAt v2 ra (ansL (A.map Prod.fst))) := h1
  have Is : Hid (IntsAt v2 sa (ansL (A.map Prod.snd))) := h2
  clear h1 h2
  go_wp2_with fail
  refine (SBP.out v2 Ia.out Ib.out).mono ?_
  rintro e v3 ⟨ta, tc, ua, uc, rfl, h1, h2, hb⟩
  have HBn : Hid (Below w.heap.size w v3) := HB0.out.trans (hb.mono HB0.out.size)
  clear HB0
  have HB0 : Hid (Below w.heap.size w v3) := HBn.out
  clear HBn
  have Ian : Hid (IntsAt v3 ao a) := Ia.out.below hb
  clear Ia
  have Ia : Hid (IntsAt v3 ao a) := Ian.out
  clear Ian
  have Ibn : Hid (IntsAt v3 bo b) := Ib.out.below hb
  clear Ib
  have Ib : Hid (IntsAt v3 bo b) := Ibn.out
  clear Ibn
  have Ipn : Hid (IntsAt v3 pa (ansL (A.map Prod.fst))) := Ip.out.below hb
  clear Ip
  have Ip : Hid (IntsAt v3 pa (ansL (A.map Prod.fst))) := Ipn.out
  clear Ipn
  have Iqn : Hid (IntsAt v3 qa (ansL (A.map Prod.snd))) := Iq.out.below hb
  clear Iq
  have Iq : Hid (IntsAt v3 qa (ansL (A.map Prod.snd))) := Iqn.out
  clear Iqn
  have Irn : Hid (IntsAt v3 ra (ansL (A.map Prod.fst))) := Ir.out.below hb
  clear Ir
  have Ir : Hid (IntsAt v3 ra (ansL (A.map Prod.fst))) := Irn.out
  clear Irn
  have Isn : Hid (IntsAt v3 sa (ansL (A.map Prod.snd))) := Is.out.below hb
  clear Is
  have Is : Hid (IntsAt v3 sa (ansL (A.map Prod.snd))) := Isn.out
  clear Isn
  clear hb
  have It : Hid (IntsAt v3 ta (ansL (B.map Prod.fst))) := h1
  have Iu : Hid (IntsAt v3 ua (ansL (B.map Prod.snd))) := h2
  clear h1 h2
  go_wp2_with fail
  refine (SBX.out v3 Ia.out Ib.out).mono ?_
  rintro e v4 ⟨va, vc, xa, xc, rfl, h1, h2, hb⟩
  have HBn : Hid (Below w.heap.size w v4) := HB0.out.trans (hb.mono HB0.out.size)
  clear HB0
  have HB0 : Hid (Below w.heap.size w v4) := HBn.out
  clear HBn
  have Ian : Hid (IntsAt v4 ao a) := Ia.out.below hb
  clear Ia
  have Ia : Hid (IntsAt v4 ao a) := Ian.out
  clear Ian
  have Ibn : Hid (IntsAt v4 bo b) := Ib.out.below hb
  clear Ib
  have Ib : Hid (IntsAt v4 bo b) := Ibn.out
  clear Ibn
  have Ipn : Hid (IntsAt v4 pa (ansL (A.map Prod.fst))) := Ip.out.below hb
  clear Ip
  have Ip : Hid (IntsAt v4 pa (ansL (A.map Prod.fst))) := Ipn.out
  clear Ipn
  have Iqn : Hid (IntsAt v4 qa (ansL (A.map Prod.snd))) := Iq.out.below hb
  clear Iq
  have Iq : Hid (IntsAt v4 qa (ansL (A.map Prod.snd))) := Iqn.out
  clear Iqn
  have Irn : Hid (IntsAt v4 ra (ansL (A.map Prod.fst))) := Ir.out.below hb
  clear Ir
  have Ir : Hid (IntsAt v4 ra (ansL (A.map Prod.fst))) := Irn.out
  clear Irn
  have Isn : Hid (IntsAt v4 sa (ansL (A.map Prod.snd))) := Is.out.below hb
  clear Is
  have Is : Hid (IntsAt v4 sa (ansL (A.map Prod.snd))) := Isn.out
  clear Isn
  have Itn : Hid (IntsAt v4 ta (ansL (B.map Prod.fst))) := It.out.below hb
  clear It
  have It : Hid (IntsAt v4 ta (ansL (B.map Prod.fst))) := Itn.out
  clear Itn
  have Iun : Hid (IntsAt v4 ua (ansL (B.map Prod.snd))) := Iu.out.below hb
  clear Iu
  have Iu : Hid (IntsAt v4 ua (ansL (B.map Prod.snd))) := Iun.out
  clear Iun
  clear hb
  have Iv : Hid (IntsAt v4 va (ansL (B.map Prod.fst))) := h1
  have Ix : Hid (IntsAt v4 xa (ansL (B.map Prod.snd))) := h2
  clear h1 h2
  go_wp2_with fail
  refine (same_same (ansL (A.map Prod.fst)) _ _ pc rc v4 Ip.out Ir.out).mono ?_
  rintro e v5 ⟨rfl, nn, hq⟩
  have hb : Below v4.heap.size v4 v5 := by rw [hq]; exact below_drewN _ _
  clear hq
  have HBn : Hid (Below w.heap.size w v5) := HB0.out.trans (hb.mono HB0.out.size)
  clear HB0
  have HB0 : Hid (Below w.heap.size w v5) := HBn.out
  clear HBn
  have Ian : Hid (IntsAt v5 ao a) := Ia.out.below hb
  clear Ia
  have Ia : Hid (IntsAt v5 ao a) := Ian.out
  clear Ian
  have Ibn : Hid (IntsAt v5 bo b) := Ib.out.below hb
  clear Ib
  have Ib : Hid (IntsAt v5 bo b) := Ibn.out
  clear Ibn
  have Ipn : Hid (IntsAt v5 pa (ansL (A.map Prod.fst))) := Ip.out.below hb
  clear Ip
  have Ip : Hid (IntsAt v5 pa (ansL (A.map Prod.fst))) := Ipn.out
  clear Ipn
  have Iqn : Hid (IntsAt v5 qa (ansL (A.map Prod.snd))) := Iq.out.below hb
  clear Iq
  have Iq : Hid (IntsAt v5 qa (ansL (A.map Prod.snd))) := Iqn.out
  clear Iqn
  have Irn : Hid (IntsAt v5 ra (ansL (A.map Prod.fst))) := Ir.out.below hb
  clear Ir
  have Ir : Hid (IntsAt v5 ra (ansL (A.map Prod.fst))) := Irn.out
  clear Irn
  have Isn : Hid (IntsAt v5 sa (ansL (A.map Prod.snd))) := Is.out.below hb
  clear Is
  have Is : Hid (IntsAt v5 sa (ansL (A.map Prod.snd))) := Isn.out
  clear Isn
  have Itn : Hid (IntsAt v5 ta (ansL (B.map Prod.fst))) := It.out.below hb
  clear It
  have It : Hid (IntsAt v5 ta (ansL (B.map Prod.fst))) := Itn.out
  clear Itn
  have Iun : Hid (IntsAt v5 ua (ansL (B.map Prod.snd))) := Iu.out.below hb
  clear Iu
  have Iu : Hid (IntsAt v5 ua (ansL (B.map Prod.snd))) := Iun.out
  clear Iun
  have Ivn : Hid (IntsAt v5 va (ansL (B.map Prod.fst))) := Iv.out.below hb
  clear Iv
  have Iv : Hid (IntsAt v5 va (ansL (B.map Prod.fst))) := Ivn.out
  clear Ivn
  have Ixn : Hid (IntsAt v5 xa (ansL (B.map Prod.snd))) := Ix.out.below hb
  clear Ix
  have Ix : Hid (IntsAt v5 xa (ansL (B.map Prod.snd))) := Ixn.out
  clear Ixn
  clear hb
  go_wp2_with fail
  refine (same_same (ansL (A.map Prod.snd)) _ _ qc sc v5 Iq.out Is.out).mono ?_
  rintro e v6 ⟨rfl, nn, hq⟩
  have hb : Below v5.heap.size v5 v6 := by rw [hq]; exact below_drewN _ _
  clear hq
  have HBn : Hid (Below w.heap.size w v6) := HB0.out.trans (hb.mono HB0.out.size)
  clear HB0
  have HB0 : Hid (Below w.heap.size w v6) := HBn.out
  clear HBn
  have Ian : Hid (IntsAt v6 ao a) := Ia.out.below hb
  clear Ia
  have Ia : Hid (IntsAt v6 ao a) := Ian.out
  clear Ian
  have Ibn : Hid (IntsAt v6 bo b) := Ib.out.below hb
  clear Ib
  have Ib : Hid (IntsAt v6 bo b) := Ibn.out
  clear Ibn
  have Ipn : Hid (IntsAt v6 pa (ansL (A.map Prod.fst))) := Ip.out.below hb
  clear Ip
  have Ip : Hid (IntsAt v6 pa (ansL (A.map Prod.fst))) := Ipn.out
  clear Ipn
  have Iqn : Hid (IntsAt v6 qa (ansL (A.map Prod.snd))) := Iq.out.below hb
  clear Iq
  have Iq : Hid (IntsAt v6 qa (ansL (A.map Prod.snd))) := Iqn.out
  clear Iqn
  have Irn : Hid (IntsAt v6 ra (ansL (A.map Prod.fst))) := Ir.out.below hb
  clear Ir
  have Ir : Hid (IntsAt v6 ra (ansL (A.map Prod.fst))) := Irn.out
  clear Irn
  have Isn : Hid (IntsAt v6 sa (ansL (A.map Prod.snd))) := Is.out.below hb
  clear Is
  have Is : Hid (IntsAt v6 sa (ansL (A.map Prod.snd))) := Isn.out
  clear Isn
  have Itn : Hid (IntsAt v6 ta (ansL (B.map Prod.fst))) := It.out.below hb
  clear It
  have It : Hid (IntsAt v6 ta (ansL (B.map Prod.fst))) := Itn.out
  clear Itn
  have Iun : Hid (IntsAt v6 ua (ansL (B.map Prod.snd))) := Iu.out.below hb
  clear Iu
  have Iu : Hid (IntsAt v6 ua (ansL (B.map Prod.snd))) := Iun.out
  clear Iun
  have Ivn : Hid (IntsAt v6 va (ansL (B.map Prod.fst))) := Iv.out.below hb
  clear Iv
  have Iv : Hid (IntsAt v6 va (ansL (B.map Prod.fst))) := Ivn.out
  clear Ivn
  have Ixn : Hid (IntsAt v6 xa (ansL (B.map Prod.snd))) := Ix.out.below hb
  clear Ix
  have Ix : Hid (IntsAt v6 xa (ansL (B.map Prod.snd))) := Ixn.out
  clear Ixn
  clear hb
  go_wp2_with fail
  refine (same_same (ansL (B.map Prod.fst)) _ _ tc vc v6 It.out Iv.out).mono ?_
  rintro e v7 ⟨rfl, nn, hq⟩
  have hb : Below v6.heap.size v6 v7 := by rw [hq]; exact below_drewN _ _
  clear hq
  have HBn : Hid (Below w.heap.size w v7) := HB0.out.trans (hb.mono HB0.out.size)
  clear HB0
  have HB0 : Hid (Below w.heap.size w v7) := HBn.out
  clear HBn
  have Ian : Hid (IntsAt v7 ao a) := Ia.out.below hb
  clear Ia
  have Ia : Hid (IntsAt v7 ao a) := Ian.out
  clear Ian
  have Ibn : Hid (IntsAt v7 bo b) := Ib.out.below hb
  clear Ib
  have Ib : Hid (IntsAt v7 bo b) := Ibn.out
  clear Ibn
  have Ipn : Hid (IntsAt v7 pa (ansL (A.map Prod.fst))) := Ip.out.below hb
  clear Ip
  have Ip : Hid (IntsAt v7 pa (ansL (A.map Prod.fst))) := Ipn.out
  clear Ipn
  have Iqn : Hid (IntsAt v7 qa (ansL (A.map Prod.snd))) := Iq.out.below hb
  clear Iq
  have Iq : Hid (IntsAt v7 qa (ansL (A.map Prod.snd))) := Iqn.out
  clear Iqn
  have Irn : Hid (IntsAt v7 ra (ansL (A.map Prod.fst))) := Ir.out.below hb
  clear Ir
  have Ir : Hid (IntsAt v7 ra (ansL (A.map Prod.fst))) := Irn.out
  clear Irn
  have Isn : Hid (IntsAt v7 sa (ansL (A.map Prod.snd))) := Is.out.below hb
  clear Is
  have Is : Hid (IntsAt v7 sa (ansL (A.map Prod.snd))) := Isn.out
  clear Isn
  have Itn : Hid (IntsAt v7 ta (ansL (B.map Prod.fst))) := It.out.below hb
  clear It
  have It : Hid (IntsAt v7 ta (ansL (B.map Prod.fst))) := Itn.out
  clear Itn
  have Iun : Hid (IntsAt v7 ua (ansL (B.map Prod.snd))) := Iu.out.below hb
  clear Iu
  have Iu : Hid (IntsAt v7 ua (ansL (B.map Prod.snd))) := Iun.out
  clear Iun
  have Ivn : Hid (IntsAt v7 va (ansL (B.map Prod.fst))) := Iv.out.below hb
  clear Iv
  have Iv : Hid (IntsAt v7 va (ansL (B.map Prod.fst))) := Ivn.out
  clear Ivn
  have Ixn : Hid (IntsAt v7 xa (ansL (B.map Prod.snd))) := Ix.out.below hb
  clear Ix
  have Ix : Hid (IntsAt v7 xa (ansL (B.map Prod.snd))) := Ixn.out
  clear Ixn
  clear hb
  go_wp2_with fail
  refine (same_same (ansL (B.map Prod.snd)) _ _ uc xc v7 Iu.out Ix.out).mono ?_
  rintro e v8 ⟨rfl, nn, hq⟩
  have hb : Below v7.heap.size v7 v8 := by rw [hq]; exact below_drewN _ _
  clear hq
  have HBn : Hid (Below w.heap.size w v8) := HB0.out.trans (hb.mono HB0.out.size)
  clear HB0
  have HB0 : Hid (Below w.heap.size w v8) := HBn.out
  clear HBn
  have Ian : Hid (IntsAt v8 ao a) := Ia.out.below hb
  clear Ia
  have Ia : Hid (IntsAt v8 ao a) := Ian.out
  clear Ian
  have Ibn : Hid (IntsAt v8 bo b) := Ib.out.below hb
  clear Ib
  have Ib : Hid (IntsAt v8 bo b) := Ibn.out
  clear Ibn
  have Ipn : Hid (IntsAt v8 pa (ansL (A.map Prod.fst))) := Ip.out.below hb
  clear Ip
  have Ip : Hid (IntsAt v8 pa (ansL (A.map Prod.fst))) := Ipn.out
  clear Ipn
  have Iqn : Hid (IntsAt v8 qa (ansL (A.map Prod.snd))) := Iq.out.below hb
  clear Iq
  have Iq : Hid (IntsAt v8 qa (ansL (A.map Prod.snd))) := Iqn.out
  clear Iqn
  have Irn : Hid (IntsAt v8 ra (ansL (A.map Prod.fst))) := Ir.out.below hb
  clear Ir
  have Ir : Hid (IntsAt v8 ra (ansL (A.map Prod.fst))) := Irn.out
  clear Irn
  have Isn : Hid (IntsAt v8 sa (ansL (A.map Prod.snd))) := Is.out.below hb
  clear Is
  have Is : Hid (IntsAt v8 sa (ansL (A.map Prod.snd))) := Isn.out
  clear Isn
  have Itn : Hid (IntsAt v8 ta (ansL (B.map Prod.fst))) := It.out.below hb
  clear It
  have It : Hid (IntsAt v8 ta (ansL (B.map Prod.fst))) := Itn.out
  clear Itn
  have Iun : Hid (IntsAt v8 ua (ansL (B.map Prod.snd))) := Iu.out.below hb
  clear Iu
  have Iu : Hid (IntsAt v8 ua (ansL (B.map Prod.snd))) := Iun.out
  clear Iun
  have Ivn : Hid (IntsAt v8 va (ansL (B.map Prod.fst))) := Iv.out.below hb
  clear Iv
  have Iv : Hid (IntsAt v8 va (ansL (B.map Prod.fst))) := Ivn.out
  clear Ivn
  have Ixn : Hid (IntsAt v8 xa (ansL (B.map Prod.snd))) := Ix.out.below hb
  clear Ix
  have Ix : Hid (IntsAt v8 xa (ansL (B.map Prod.snd))) := Ixn.out
  clear Ixn
  clear hb
  go_wp2_with fail
  refine (KAw.out v8 HB0.out).mono ?_
  rintro e vz ⟨rfl, hb⟩
  have HBn : Hid (Below w.heap.size w vz) := HB0.out.trans (hb.mono HB0.out.size)
  clear HB0
  have HB0 : Hid (Below w.heap.size w vz) := HBn.out
  clear HBn
  have Ian : Hid (IntsAt vz ao a) := Ia.out.below hb
  clear Ia
  have Ia : Hid (IntsAt vz ao a) := Ian.out
  clear Ian
  have Ibn : Hid (IntsAt vz bo b) := Ib.out.below hb
  clear Ib
  have Ib : Hid (IntsAt vz bo b) := Ibn.out
  clear Ibn
  have Ipn : Hid (IntsAt vz pa (ansL (A.map Prod.fst))) := Ip.out.below hb
  clear Ip
  have Ip : Hid (IntsAt vz pa (ansL (A.map Prod.fst))) := Ipn.out
  clear Ipn
  have Iqn : Hid (IntsAt vz qa (ansL (A.map Prod.snd))) := Iq.out.below hb
  clear Iq
  have Iq : Hid (IntsAt vz qa (ansL (A.map Prod.snd))) := Iqn.out
  clear Iqn
  have Irn : Hid (IntsAt vz ra (ansL (A.map Prod.fst))) := Ir.out.below hb
  clear Ir
  have Ir : Hid (IntsAt vz ra (ansL (A.map Prod.fst))) := Irn.out
  clear Irn
  have Isn : Hid (IntsAt vz sa (ansL (A.map Prod.snd))) := Is.out.below hb
  clear Is
  have Is : Hid (IntsAt vz sa (ansL (A.map Prod.snd))) := Isn.out
  clear Isn
  have Itn : Hid (IntsAt vz ta (ansL (B.map Prod.fst))) := It.out.below hb
  clear It
  have It : Hid (IntsAt vz ta (ansL (B.map Prod.fst))) := Itn.out
  clear Itn
  have Iun : Hid (IntsAt vz ua (ansL (B.map Prod.snd))) := Iu.out.below hb
  clear Iu
  have Iu : Hid (IntsAt vz ua (ansL (B.map Prod.snd))) := Iun.out
  clear Iun
  have Ivn : Hid (IntsAt vz va (ansL (B.map Prod.fst))) := Iv.out.below hb
  clear Iv
  have Iv : Hid (IntsAt vz va (ansL (B.map Prod.fst))) := Ivn.out
  clear Ivn
  have Ixn : Hid (IntsAt vz xa (ansL (B.map Prod.snd))) := Ix.out.below hb
  clear Ix
  have Ix : Hid (IntsAt vz xa (ansL (B.map Prod.snd))) := Ixn.out
  clear Ixn
  clear hb
  go_wp2_with fail
  go_ret
  exact ⟨rfl, HB0.out⟩


theorem door_met (os : Os) (args : Array Value) : laidMetH Tryd.prog Rows.predictStereoRow.laid ((World.doorLaid Tryd.prog 400 os).forCall (fun _ _ => 0) ⟨#[], args, []⟩).memory :=
  laidMetH_of_parts3 (fuel := 8) (laidMet_of_run' 8 (by kernel_rfl) (by kernel_rfl)) (by kernel_rfl) (by kernel_rfl)

set_option maxRecDepth 100000 in
theorem lifted (os : Os) (started : os.Started) (H : Type) (enc : TypeId × Value → H) :
    ReturnsInHanded {} Tryd.checked os 6 .any (fun w args => (Rows.predictStereoSpec.pre enc Tryd.prog Tryd.f6 [] false w args ∧ laidMetH Tryd.prog Rows.predictStereoRow.laid w) ∧ sizedMet enc Tryd.prog Tryd.f6 (OpenSpec.ofChange Rows.predictStereoSpec) false w args)
      (Rows.predictStereoSpec.post enc Tryd.prog Tryd.f6 false true false false) := by
  refine returnsInHanded_of_change_and (C := Tryd.checked) (X := fun w _ => laidMetH Tryd.prog Rows.predictStereoRow.laid w) (fun _ _ _ hh h => h.of_heap hh) own started (by kernel_rfl) Tryd.func6
    (ChangeSpec.witness_shaped (enc := enc) (C := Tryd.checked) (os := os) (X := fun w _ => laidMetH Tryd.prog Rows.predictStereoRow.laid w) false (World.doorLaid Tryd.prog 400 os) #[.int .i64 0, .slice none 0 0, .slice none 0 0] 8 rfl (World.shaped_of_RefB (by kernel_rfl) (by kernel_rfl)) (by kernel_rfl) (by kernel_rfl) (by kernel_rfl) (door_met os _)) ?_
  intro W base args ds gs before hval0 hW _ hsz0 hL _
  have hval : ∀ (j : Nat) t v, Tryd.f6.params[j]? = some t → args[j]? = some v → Value.okWide Tryd.prog W .any base t v := hval0
  have hsz : (DataW.weightsEach Tryd.prog (Tryd.f6.params.toList ++ Rows.predictStereoSpec.plain.varTypes Tryd.prog) (ds ++ gs)).all (· ≤ reachBytes) = true := hsz0
  have hW' := hW
  obtain ⟨p, q, hA0, hV, rfl, hfz, hnd⟩ := hW
  have hA : DataW.TrodAll enc Tryd.prog W 0 (fun _ => true) true Tryd.f6.params.toList args.toList ds p := hA0
  rw [Tryd.params6] at hA hval hsz
  obtain ⟨v0, vs0, d0, ds0, p0, q0, hargs, rfl, rfl, h0, r0⟩ := trodAll_cons hA
  obtain ⟨v1, vs1, d1, ds1, p1, q1, rfl, rfl, rfl, h1, r1⟩ := trodAll_cons r0
  obtain ⟨v2, vs2, d2, ds2, p2, q2, rfl, rfl, rfl, h2, r2⟩ := trodAll_cons r1
  obtain ⟨rfl, rfl, rfl⟩ := trodAll_nil r2
  obtain rfl : args = #[v0, v1, v2] := by cases args; simp_all
  obtain ⟨rfl, rfl⟩ := trodVars_none hV
  have hall := List.all_eq_true.1 hsz
  obtain ⟨x0, rfl, rfl, rfl, i0⟩ := open_int Tryd.underlying3 (hval 0 3 v0 rfl rfl) h0
  have ib0 := bounds_i64 i0
  have hw1 : ∀ n ∈ d1.weights Tryd.prog 22, n ≤ reachBytes := fun n hn => by
    have := hall n (List.mem_append.2 (.inr (List.mem_append.2 (.inl hn))))
    exact of_decide_eq_true this
  have k1 := h1
  have lt1 : ∀ x ∈ p1, x.block < W.heap.size := by obtain ⟨m, hm⟩ := k1; exact DataW.trod_lt m _ _ _ hm
  obtain ⟨o1, c1, x1, rfl, hr1, hc1, hn1, hm1⟩ := open_list (hval 1 22 v1 rfl rfl) h1 hw1
  have hw2 : ∀ n ∈ d2.weights Tryd.prog 22, n ≤ reachBytes := fun n hn => by
    have := hall n (List.mem_append.2 (.inr (List.mem_append.2 (.inr (List.mem_append.2 (.inl hn))))))
    exact of_decide_eq_true this
  have k2 := h2
  have lt2 : ∀ x ∈ p2, x.block < W.heap.size := by obtain ⟨m, hm⟩ := k2; exact DataW.trod_lt m _ _ _ hm
  obtain ⟨o2, c2, x2, rfl, hr2, hc2, hn2, hm2⟩ := open_list (hval 2 22 v2 rfl rfl) h2 hw2
  have hT : Tz W := tz_of_laid hL
  clear hA0 hval0
  refine (walk x0 ib0.1 ib0.2 x1 o1 c1 hc1 hn1 hm1 x2 o2 c2 hc2 hn2 hm2 W hr1 hr2 hT).mono fun e W' ⟨he, bel⟩ => ?_
  subst he
  exact ⟨_, rfl, _, _, _, [], _, [], hW', trodAll_mk1 (shut_bool Tryd.underlying4 _), (trodAll_cons_mk (shut_int Tryd.underlying3 i0) (trodAll_cons_mk (Below.trod laidOut (by kernel_rfl) (of_decide_eq_true (by kernel_rfl)) k1 bel lt1) (trodAll_cons_mk (Below.trod laidOut (by kernel_rfl) (of_decide_eq_true (by kernel_rfl)) k2 bel lt2) trodAll_mk0))), rfl, bel.frame _, fun h => by cases h⟩

theorem said : Rows.PredictStereoSaid :=
  OpenClaim.holds_of_wide 6 Tryd.f6 rfl rfl rfl rfl rfl rfl rfl ⟨rfl, rfl, rfl, rfl, rfl⟩ rfl rfl rfl rfl rfl (by kernel_rfl) Tryd.func6 (by kernel_rfl)
    (of_decide_eq_true (by kernel_rfl)) (by unfold Func.isWrapper; first | (rw [if_pos (by decide +kernel)]; kernel_rfl) | (rw [if_neg (by decide +kernel)]; exact ⟨rfl, rfl⟩))
    (fun os started H enc _ => lifted os started H enc)

/-- No parameter wants a stand-in; the program's own looks are off. -/
theorem plain (f : FuncId) (fn : Func) (hf : Tryd.pinned.checked.prog.funcNamed Rows.predictStereoRow.func = some f) (hfn : Tryd.pinned.checked.prog.funcs[f]? = some fn) :
    false = Tryd.pinned.checked.prog.looks [] ∧ ∀ (j : Nat) t, fn.params[j]? = some t → Tryd.pinned.checked.prog.wantsStandIn t = false := by
  obtain rfl : f = 6 := Option.some.inj ((show Tryd.prog.funcNamed Rows.predictStereoRow.func = some 6 by kernel_rfl).symm.trans hf) |>.symm
  obtain rfl : fn = Tryd.f6 := (Option.some.inj (Tryd.func6.symm.trans hfn)).symm
  refine ⟨by kernel_rfl, fun j t ht => ?_⟩
  rw [Tryd.params6] at ht
  have hm := Array.mem_of_getElem? ht
  simp at hm
  rcases hm with rfl | rfl
  · exact (show Tryd.prog.wantsStandIn 3 = false by kernel_rfl)
  · exact (show Tryd.prog.wantsStandIn 22 = false by kernel_rfl)

theorem card : Rows.PredictStereoCardSaid :=
  Claim7.holds_tied_plain_at .later [] _ _ _ _ said (fun _ h => by cases h) (by kernel_rfl) (fun _ h => by cases h) predictStereo_row_tie rfl ⟨rfl, rfl⟩ (by kernel_rfl) rfl plain (by kernel_rfl)

end Go.Proofs.YtpfkaddammfkkaaDoor.predictStereo
namespace Go.Proofs.YtpfkaddammfkkaaDoor
theorem predictStereo_card : Rows.PredictStereoCardSaid := predictStereo.card
#print axioms predictStereo_card
end Go.Proofs.YtpfkaddammfkkaaDoor
