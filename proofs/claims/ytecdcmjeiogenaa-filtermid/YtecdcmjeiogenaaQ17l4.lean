/- Own text: the walk of FilterMid. -/
import Derived.Test.YtecdcmjeiogenaaQ17l0
namespace Go.Proofs.Ytecdcmjeiogenaa
open Go.RowKit
set_option linter.unusedSimpArgs false
set_option linter.unusedVariables false
attribute [local go_sem] Oper.semAt_some

set_option maxRecDepth 20000 in
set_option maxHeartbeats 3200000 in
theorem mid17 {PCh : ChP} (D : Does17 PCh) (a b : List Int) (aa ba : Option Addr) (ac bc : Nat) (w : World) (ha : IntsAt w aa a) (hb : IntsAt w ba b) (hac : a.length ≤ ac) (hbc : b.length ≤ bc) : Calls Try.prog 6 #[.slice aa a.length ac, .slice ba b.length bc] w fun e w' => e = .returned (.bool true) ∧ Below w.heap.size w w' := by
  have HD := hid D
  have hal := ha.len
  have hbl := hb.len
  obtain ⟨n, hn⟩ : ∃ n, n = min a.length b.length := ⟨_, rfl⟩
  have hna : n ≤ a.length := by omega
  have hnb : n ≤ b.length := by omega
  have HNI : Hid ((if b.length < a.length then (b.length : Int) else (a.length : Int)) = (n : Int)) := by show _ = _; split <;> omega
  have HUN := hid (zipN_unmid a b ha.num hb.num n hna hnb)
  have HX0 : Hid (AllAt w [(aa, a), (ba, b), (aa, a.take n), (ba, b.take n)] ∧ Below w.heap.size w w) := ⟨AllAt.cons ha (AllAt.cons hb (AllAt.cons (ha.take n hna) (AllAt.cons (hb.take n hnb) (fun q hq => (by cases hq))))), Below.refl _ _⟩
  have k1 := HD.out.mid a b aa ba ac bc w ha hb hac hbc
  rw [← hn] at k1
  have HTA : Hid ((a.take n).length = n) := by show _ = _; rw [List.length_take]; omega
  have HTB : Hid ((b.take n).length = n) := by show _ = _; rw [List.length_take]; omega
  have HM : Hid ((zipN midN a b n).length = n) := zipN_len _ _ _ _
  have HS : Hid ((zipN sidN a b n).length = n) := zipN_len _ _ _ _
  generalize zipN midN a b n = M at *
  generalize zipN sidN a b n = S at *
  clear D ha hb hn
  go_enter Try.func6, Try.ntmps6
  go_wp2_with fail
  refine k1.mono ?_
  clear k1
  rintro e w1 ⟨xa, xc, ya, yc, rfl, h1, h2, c1, c2, hb⟩
  have HX1 : Hid (AllAt w1 [(xa, M), (ya, S), (aa, a), (ba, b), (aa, a.take n), (ba, b.take n)] ∧ Below w.heap.size w w1) := ⟨AllAt.cons h1 (AllAt.cons h2 (HX0.out.1.low hb)), hb⟩
  have HC : Hid (M.length ≤ xc ∧ S.length ≤ yc) := ⟨c1, c2⟩
  clear HX0 hb h1 h2 c1 c2
  go_wp2_with fail
  have k2 := HD.out.unmid M S xa ya xc yc w1 (HX1.out.1.get 0 rfl) (HX1.out.1.get 1 rfl) HC.out.1 HC.out.2
  rw [HM.out, HS.out, Nat.min_self, HUN.out.1, HUN.out.2] at k2
  rw [HM.out, HS.out]
  refine k2.mono ?_
  clear k2
  rintro e w2 ⟨ua, uc, va, vc, rfl, h1, h2, _, _, hb⟩
  have HX2 : Hid (AllAt w2 [(ua, a.take n), (va, b.take n), (xa, M), (ya, S), (aa, a), (ba, b), (aa, a.take n), (ba, b.take n)] ∧ Below w.heap.size w w2) := ⟨AllAt.cons h1 (AllAt.cons h2 (HX1.out.1.low hb)), below_on HX1.out.2 HX1.out.2.size hb⟩
  clear HX1 hb h1 h2
  rw [HTA.out, HTB.out]
  go_upto_region 4 with fail
  rw [HNI.out]
  go_wp2_with fail
  have s1 := same_same (a.take n) ua aa uc ac w2 (HX2.out.1.get 0 rfl) (HX2.out.1.get 6 rfl)
  rw [HTA.out] at s1
  refine s1.mono ?_
  clear s1
  rintro e w3 ⟨rfl, m, hw⟩
  have HX3 : Hid (AllAt w3 [(ua, a.take n), (va, b.take n), (xa, M), (ya, S), (aa, a), (ba, b), (aa, a.take n), (ba, b.take n)] ∧ Below w.heap.size w w3) := by
    have hb : Below w2.heap.size w2 w3 := by rw [hw]; exact below_drewN _ _
    exact ⟨HX2.out.1.low hb, below_on HX2.out.2 HX2.out.2.size hb⟩
  clear HX2 hw
  go_wp2_with fail
  have s1 := same_same (b.take n) va ba vc bc w3 (HX3.out.1.get 1 rfl) (HX3.out.1.get 7 rfl)
  rw [HTB.out] at s1
  refine s1.mono ?_
  clear s1
  rintro e w4 ⟨rfl, m, hw⟩
  have HX4 : Hid (Below w.heap.size w w4) := by
    have hb : Below w3.heap.size w3 w4 := by rw [hw]; exact below_drewN _ _
    exact below_on HX3.out.2 HX3.out.2.size hb
  clear HX3 hw
  go_wp2_with fail
  refine (awake17 HD.out _).mono ?_
  rintro e wz ⟨rfl, hb⟩
  have HZ : Hid (Below w.heap.size w wz) := below_on HX4.out HX4.out.size hb
  clear HX4 hb
  go_wp2_with fail
  go_ret
  exact ⟨rfl, HZ.out⟩

end Go.Proofs.Ytecdcmjeiogenaa
