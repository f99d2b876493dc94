/-
  Own text: the law RiffChunks, where what it reads is of the given bulk: any text as chunks, any chunks as a text.
-/
import Derived.Test.YtfnkdahocehilaaGreatG47x
import Derived.Test.YtfnkdahocehilaaGreatQ6awake
import Derived.Test.YtfnkdahocehilaaGreatP6args
import Derived.Test.YtfnkdahocehilaaGreatR6lay2
import Derived.Test.YtfnkdahocehilaaGreatG28x
import Derived.WalkKit
import Derived.ProofKit
import Derived.OpenShut
import Derived.ShutString
import Derived.ChangeOld
import Derived.Below
import Derived.JoinedCond
import Derived.Laws.AppendOwnNone
namespace Go.Proofs.YtfnkdahocehilaaGreat.riffChunks
open Go.ChangeShapes Go.WideShapes Go.ChangeAt Go.RowKit
open Go.ChangeMaps (open_string shut_string)
set_option linter.unusedSimpArgs false
set_option linter.unusedVariables false

theorem own : ownKnob Tryz.prog.godebug = none := by kernel_rfl
theorem laidOut : laidOutB Tryz.prog = true := by kernel_rfl
theorem chunksR_len (s : ByteArray) (big : Bool) : ∀ (fuel at' : Nat) (acc : List Chk), acc.length ≤ 1024 → (chunksR s big fuel at' acc).1.length ≤ 1024
  | 0, at', acc, h => h
  | fuel + 1, at', acc, h => by
    by_cases h1 : at' < s.size
    · cases hq : oneB (s.extract at' s.size) big (-1)
      · rw [chunksR_bad _ _ _ _ _ h1 hq]
        simp
      · by_cases hl : acc.length = 1024
        · rw [chunksR_many _ _ _ _ _ h1 hq hl]
          simp
        · rw [chunksR_step _ _ _ _ _ h1 hq hl]
          exact chunksR_len s big fuel _ _ (by rw [List.length_append]; simp; omega)
    · rw [chunksR_end _ _ _ _ _ h1]
      exact h
theorem chunksN_len (s : ByteArray) (big : Bool) : (chunksN s big).1.length ≤ 1024 := chunksR_len s big _ _ _ (by simp)

theorem ccells_one : ∀ (l : List Chk) (u : Value), u ∈ ccells l → u.oneCell' = true := by
  intro l u hu
  unfold ccells at hu
  obtain ⟨c, _, hc⟩ := List.mem_flatMap.1 hu
  simp at hc
  rcases hc with rfl | rfl | rfl <;> rfl
theorem ccells_at {w : World} {b off : Nat} {l : List Chk} (hc : ∀ i c, l[i]? = some c → w.cell? ⟨b, off + i * 3, none⟩ = some (.string c.id) ∧ w.cell? ⟨b, off + i * 3 + 1, none⟩ = some (.string c.body) ∧ w.cell? ⟨b, off + i * 3 + 2, none⟩ = some (.int .i64 c.pad)) :
    ∀ j u, (ccells l)[j]? = some u → w.cell? ((⟨b, off, none⟩ : Addr).add j) = some u := by
  intro j u hj
  have hjl := (List.getElem?_eq_some_iff.1 hj).1
  rw [ccells_length] at hjl
  have hil : j / 3 < l.length := by omega
  have hi : l[j / 3]? = some l[j / 3] := List.getElem?_eq_getElem hil
  obtain ⟨g0, g1, g2⟩ := ccells_get l (j / 3) _ hi
  obtain ⟨q0, q1, q2⟩ := hc (j / 3) _ hi
  rw [add_plain]
  have hm : j = j / 3 * 3 ∨ j = j / 3 * 3 + 1 ∨ j = j / 3 * 3 + 2 := by omega
  rcases hm with e | e | e
  · have hj2 := hj
    rw [e, g0] at hj2
    rw [e, q0]
    exact hj2
  · have hj2 := hj
    rw [e, g1] at hj2
    rw [e, ← Nat.add_assoc, q1]
    exact hj2
  · have hj2 := hj
    rw [e, g2] at hj2
    rw [e, ← Nat.add_assoc, q2]
    exact hj2
set_option maxRecDepth 20000 in
set_option maxHeartbeats 1600000 in
theorem walk (s : ByteArray) (hs : s.size ≤ 1048576) (l : List Chk) (ao : Option Addr) (cap : Nat) (hcap : ao = none → cap = 0) (big : Bool) (hb : bulkL l ≤ 1048576) (hp : ∀ c ∈ l, -9223372036854775808 ≤ c.pad ∧ c.pad ≤ 9223372036854775807) (w : World) (hl : ChksAt w ao l) :
    Calls Tryz.prog 3 #[.string s, .slice ao l.length cap, .bool big] w fun e w' => e = .returned (.bool true) ∧ Below w.heap.size w w' := by
  have k1 := chunks_spec s big w (by omega)
  rw [chunk_all] at k1
  have K2 : Hid (∀ wx, Calls Tryz.prog 7 #[.string s, .bool big] wx fun e w' => ∃ ao cap, e = .returned (.tuple #[.slice ao (chunksN s big).1.length cap, .int .i64 (chunksN s big).2]) ∧ ChksAt w' ao (chunksN s big).1 ∧ Below wx.heap.size wx w') := fun wx => r6chunks_spec s big wx (by omega)
  have HF : Hid (FairL l ∧ (∀ (i : Nat) (c : Chk), l[i]? = some c → FairC c) ∧ sizeL l ≤ 3 * 1048576 ∧ (layL l big).length ≤ 2 * 1048576) := ⟨bulk_fair l hb, bulk_fairC l hb hp, by have := bulk_size l; omega, by have := bulk_lay l big; omega⟩
  have hll : l.length ≤ 1048576 := by have := bulk_len l; omega
  have hLl : (chunksN s big).1.length ≤ 9000000000000000 := by
    have := chunksN_len s big
    omega
  have HL : Hid (ChksAt w ao l) := hl
  obtain ⟨iK, hK0, hK1, hK2, hK3⟩ := info_parts5 infoK3
  have HIK : Hid (Tryz.prog.info? 52 = some iK ∧ iK.zero = some (.agg zeroK) ∧ iK.size = 3 ∧ iK.bytes = 40) := ⟨hK0, hK1, hK2, hK3⟩
  clear hK0 hK1 hK2 hK3 hb hp hl
  generalize hR : chunksN s big = R at *
  obtain ⟨L, E⟩ := R
  clear hR hs
  simp only at k1 K2 hLl
  go_enter Tryz.func3, Tryz.ntmps3
  go_wp2_with fail
  refine k1.mono ?_
  rintro e w1 ⟨a1, c1, rfl, q1, h1⟩
  have HA1 : Hid (ChksAt w1 a1 L) := q1
  have HB1 : Hid (Below w.heap.size w w1) := h1
  clear k1 q1 h1
  go_wp2_with fail
  refine (K2.out _).mono ?_
  rintro e w2 ⟨a2, c2, rfl, q2, h2⟩
  have HA2 : Hid (ChksAt w2 a1 L ∧ ChksAt w2 a2 L) := ⟨HA1.out.below h2, q2⟩
  have HB2 : Hid (Below w.heap.size w w2) := HB1.out.trans (h2.mono HB1.out.size)
  clear q2 h2 HA1 HB1 K2
  cases ao with
  | none =>
    have hc0 := hcap rfl
    subst hc0
    have hl0 : l.length = 0 := by
      apply Nat.eq_zero_of_not_pos
      intro h0
      obtain ⟨b, off, e, _⟩ := HL.out.lies h0
      cases e
    obtain rfl : l = [] := List.length_eq_zero_iff.1 hl0
    have HC2 : Hid (ChksAt w2 (none : Option Addr) []) := HL.out.below HB2.out
    have HA6 : Hid (ChksAt w2 a1 L ∧ ChksAt w2 a2 L) := HA2.out
    clear hcap HA2 hl0
    go_wp2_with (at_builtin; refine wpList_append_own_none rfl (.const (.slice none 0 0)) (.tmp 28) 22 rfl w2.heap.size 52 iK 3 Tryz.underlying22 HIK.out.1 (.slice none 0 0) 0 [] rfl (World.ownsRow_nil _ _ _ _) rfl ?_)
    have k4 := Lay_spec [] big none 0 w2 HC2.out HF.out.1 (by first | omega | simp) (by have := HF.out.2.2.1; omega)
    generalize hLT : layT [] big = X at *
    generalize hLE : layE [] = Y at *
    go_wp2_with fail
    refine k4.mono ?_
    rintro e w7 ⟨rfl, h7⟩
    have HB7 : Hid (Below w.heap.size w w7) := HB2.out.trans (h7.mono HB2.out.size)
    have HA7 : Hid (ChksAt w7 a1 L ∧ ChksAt w7 a2 L) := ⟨HA6.out.1.below h7, HA6.out.2.below h7⟩
    have k5 := r6lay_spec [] big none 0 w7 (HL.out.below HB7.out) (by first | omega | simp) HF.out.2.1 (by have := HF.out.2.2.2; omega)
    rw [hLT, hLE] at k5
    clear k4 h7 HA6 HB2 HC2
    go_wp2_with fail
    refine k5.mono ?_
    rintro e w8 ⟨rfl, h8⟩
    have HB8 : Hid (Below w.heap.size w w8) := HB7.out.trans (h8.mono HB7.out.size)
    have k6 := r6sameChunks_spec L L a1 a2 c1 c2 w8 (HA7.out.1.below h8) (HA7.out.2.below h8) hLl
    rw [sameC_refl] at k6
    clear k5 h8 HA7 HB7
    go_wp2_with fail
    refine k6.mono ?_
    rintro e w9 ⟨rfl, n9, hn9⟩
    have HB9 : Hid (Below w.heap.size w w9) := by
      rw [hn9]
      exact HB8.out.trans ⟨rfl, rfl, rfl, Nat.le_refl _, fun _ _ => rfl⟩
    have k7 := awake6_spec w9
    clear k6 hn9 HB8
    go_wp2_with fail
    refine k7.mono ?_
    rintro e w10 ⟨rfl, h10⟩
    have HB10 : Hid (Below w.heap.size w w10) := HB9.out.trans (h10.mono HB9.out.size)
    clear k7 h10 HB9
    go_wp2_with fail
    go_ret
    exact ⟨rfl, HB10.out⟩
  | some ad =>
    clear hcap
    have HN : Hid (∃ news : List Value, news = ccells l ∧ ∀ j u, news[j]? = some u → w2.cell? (ad.add j) = some u) := by
      refine ⟨_, rfl, ?_⟩
      by_cases h0 : 0 < l.length
      · obtain ⟨b, off, e, hc⟩ := (HL.out.below HB2.out).lies h0
        cases e
        exact ccells_at hc
      · intro j u hj
        have := (List.getElem?_eq_some_iff.1 hj).1
        rw [ccells_length] at this
        omega
    obtain ⟨news, hne, hnw⟩ := HN.out
    have HNE : Hid (news = ccells l) := hne
    have HNW : Hid (∀ j u, news[j]? = some u → w2.cell? (ad.add j) = some u) := hnw
    have HNL : Hid (news.length = l.length * 3) := by rw [hne]; exact ccells_length l
    have HN1 : Hid (∀ u ∈ news, u.oneCell' = true) := by rw [hne]; exact ccells_one l
    clear hne hnw HN
    go_wp2_with (at_builtin; refine wpList_append_row _ rfl (.const (.slice none 0 0)) (.tmp 28) 22 rfl w2.heap.size 52 iK (.agg zeroK) 3 40 Tryz.underlying22 HIK.out.1 HIK.out.2.1 HIK.out.2.2.1 HIK.out.2.2.2 rfl (by decide) (.slice none 0 0) 0 [] rfl (World.ownsRow_nil _ _ _ _) ad l.length cap news rfl HNL.out HNW.out HN1.out (by simp only [maxLen]; omega) (by omega) (Nat.le_refl _) ?_; intro v6 w6 ho6 hg6)
    have h6 : w6.ownsRow w2.heap.size 52 3 v6 l.length (ccells l) := by
      have h := ho6.out
      rw [Nat.zero_add, List.nil_append, HNE.out] at h
      exact h
    have h26 : Below w2.heap.size w2 w6 := grown_to hg6.out (Below.refl _ _) (Nat.le_refl _) (fun k e => by cases e)
    obtain ⟨a6, c6, rfl, hat⟩ := ChksAt.own h6
    have HC6 : Hid (ChksAt w6 a6 l) := hat
    have HB6 : Hid (Below w.heap.size w w6) := HB2.out.trans (h26.mono HB2.out.size)
    have HA6 : Hid (ChksAt w6 a1 L ∧ ChksAt w6 a2 L) := ⟨HA2.out.1.below h26, HA2.out.2.below h26⟩
    clear ho6 hg6 h6 h26 hat HNE HNW HNL HN1 HA2 HB2 HIK
    have k4 := Lay_spec l big a6 c6 w6 HC6.out HF.out.1 (by first | omega | simp) (by have := HF.out.2.2.1; omega)
    generalize hLT : layT l big = X at *
    generalize hLE : layE l = Y at *
    go_wp2_with fail
    refine k4.mono ?_
    rintro e w7 ⟨rfl, h7⟩
    have HB7 : Hid (Below w.heap.size w w7) := HB6.out.trans (h7.mono HB6.out.size)
    have HA7 : Hid (ChksAt w7 a1 L ∧ ChksAt w7 a2 L) := ⟨HA6.out.1.below h7, HA6.out.2.below h7⟩
    have k5 := r6lay_spec l big (some ad) cap w7 (HL.out.below HB7.out) (by first | omega | simp) HF.out.2.1 (by have := HF.out.2.2.2; omega)
    rw [hLT, hLE] at k5
    clear k4 h7 HA6 HB6 HC6
    go_wp2_with fail
    refine k5.mono ?_
    rintro e w8 ⟨rfl, h8⟩
    have HB8 : Hid (Below w.heap.size w w8) := HB7.out.trans (h8.mono HB7.out.size)
    have k6 := r6sameChunks_spec L L a1 a2 c1 c2 w8 (HA7.out.1.below h8) (HA7.out.2.below h8) hLl
    rw [sameC_refl] at k6
    clear k5 h8 HA7 HB7
    go_wp2_with fail
    refine k6.mono ?_
    rintro e w9 ⟨rfl, n9, hn9⟩
    have HB9 : Hid (Below w.heap.size w w9) := by
      rw [hn9]
      exact HB8.out.trans ⟨rfl, rfl, rfl, Nat.le_refl _, fun _ _ => rfl⟩
    have k7 := awake6_spec w9
    clear k6 hn9 HB8
    go_wp2_with fail
    refine k7.mono ?_
    rintro e w10 ⟨rfl, h10⟩
    have HB10 : Hid (Below w.heap.size w w10) := HB9.out.trans (h10.mono HB9.out.size)
    clear k7 h10 HB9
    go_wp2_with fail
    go_ret
    exact ⟨rfl, HB10.out⟩

set_option maxRecDepth 100000 in
theorem lifted (os : Os) (started : os.Started) (H : Type) (enc : TypeId × Value → H) (F : Stop.Interp) :
    ReturnsInHanded {} Tryz.checked os 3 .any ((Rows.OpenSpec.upto Rows.riffChunksSpec).pre6 enc Tryz.prog Tryz.f3 Rows.riffChunksUptoRow.domain false) (((Rows.OpenSpec.upto Rows.riffChunksSpec).at F).post enc Tryz.prog Tryz.f3 false true false false) := by
  refine returnsInHanded_of_cond (C := Tryz.checked) (s := Rows.OpenSpec.upto Rows.riffChunksSpec) (k := Rows.uptoSmall) rfl own started (by kernel_rfl) Tryz.func3
    (OpenSpec.witness (enc := enc) (C := Tryz.checked) (s := Rows.OpenSpec.upto Rows.riffChunksSpec) (k := Rows.uptoSmall) rfl false ⟨#[], #[.string ByteArray.empty, .slice none 0 0, .bool false], []⟩ 8 (by kernel_rfl) (by kernel_rfl) (by kernel_rfl)
      (x := ([.lit (.string []), .nil, .lit (.bool false)], [], [])) (by kernel_rfl) rfl (by kernel_rfl)) ?_
  intro W base args ds gs before hval0 hW _ hk _
  have hval : ∀ (j : Nat) t v, Tryz.f3.params[j]? = some t → args[j]? = some v → Value.okWide Tryz.prog W .any base t v := hval0
  have hcond : Rows.uptoSmall H (ds ++ gs) = true := hk
  have hW' := hW
  obtain ⟨p, q, hA0, hV, rfl, hfz, hnd⟩ := hW
  have hA : DataW.TrodAll enc Tryz.prog W 0 (fun _ => true) true Tryz.f3.params.toList args.toList ds p := hA0
  rw [Tryz.params3] at hA hval
  obtain ⟨v0, vs0, d0, ds0, p0, q0, hargs, rfl, rfl, h0, r0⟩ := trodAll_cons hA
  obtain ⟨v1, vs1, d1, ds1, p1, q1, rfl, rfl, rfl, h1, r1⟩ := trodAll_cons r0
  obtain ⟨v2, vs2, d2, ds2, p2, q2, rfl, rfl, rfl, h2, r2⟩ := trodAll_cons r1
  obtain ⟨rfl, rfl, rfl⟩ := trodAll_nil r2
  obtain rfl : args = #[v0, v1, v2] := by cases args; simp_all
  obtain ⟨rfl, rfl⟩ := trodVars_none hV
  have hbulk : Rows.uptoBulk d0 ≤ 1048576 ∧ Rows.uptoBulk d1 ≤ 1048576 := by
    have hb := of_decide_eq_true hcond
    simp only [List.append_nil, Rows.uptoBulkAll] at hb
    constructor <;> omega
  obtain ⟨s, rfl, rfl, rfl, i0⟩ := open_string Tryz.underlying9 (hval 0 9 v0 rfl rfl) h0
  obtain ⟨ao, len, cap, rfl⟩ := okWide_slice Tryz.underlying22 (hval 1 22 v1 rfl rfl)
  obtain ⟨big, rfl, rfl, rfl⟩ := open_bool Tryz.underlying4 (hval 2 4 v2 rfl rfl) h2
  have k1 := h1
  have lt1 : ∀ x ∈ p1, x.block < W.heap.size := by obtain ⟨m, hm⟩ := k1; exact DataW.trod_lt m _ _ _ hm
  have hs : s.size ≤ 1048576 := by
    have hb := hbulk.1
    simp only [Rows.uptoBulk] at hb
    have e : s.data.toList.length = s.size := by rw [Array.length_toList]; rfl
    omega
  obtain ⟨l, rfl, hl, hcap, hp, hb⟩ := open_chunks h1 hbulk.2
  clear hA0 hval0
  refine (walk s hs l ao cap hcap big hb hp W hl).mono fun e W' ⟨he, bel⟩ => ?_
  subst he
  exact ⟨_, rfl, _, _, _, [], _, [], hW', trodAll_mk1 (shut_bool Tryz.underlying4 _), (trodAll_cons_mk (shut_string Tryz.underlying9 i0) (trodAll_cons_mk (Below.trod laidOut (by kernel_rfl) (of_decide_eq_true (by kernel_rfl)) k1 bel lt1) (trodAll_cons_mk (shut_bool Tryz.underlying4 _) trodAll_mk0))), rfl, bel.frame _, fun h => by cases h⟩

theorem over : Rows.riffChunksUptoRow.holds Tryz.pinned (Rows.OpenSpec.upto Rows.riffChunksSpec) :=
  OpenClaim.holds_of_cond 3 Tryz.f3 rfl rfl rfl rfl rfl rfl rfl ⟨rfl, rfl, rfl, rfl, rfl⟩ rfl rfl rfl rfl rfl (by kernel_rfl) Tryz.func3 (by kernel_rfl)
    (of_decide_eq_true (by kernel_rfl)) (by unfold Func.isWrapper; first | (rw [if_pos (by decide +kernel)]; kernel_rfl) | (rw [if_neg (by decide +kernel)]; exact ⟨rfl, rfl⟩))
    (fun os started H enc _ F => lifted os started H enc F)

end Go.Proofs.YtfnkdahocehilaaGreat.riffChunks
namespace Go.Proofs.YtfnkdahocehilaaGreat
theorem riffChunksUpto_holds : Rows.RiffChunksUptoSaid := riffChunks.over
#print axioms riffChunksUpto_holds
end Go.Proofs.YtfnkdahocehilaaGreat
