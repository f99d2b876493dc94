/-
  RiceDecodes: Decode answers the residuals, the recipe, how far it went, or the error, as the document does, whatever the bits, the block and the order. No condition.
-/
import Derived.Test.YtdlakbgcflekkaaR8dec2
import Derived.Test.YtdlakbgcflekkaaP8args
import Derived.WalkKit
import Derived.ProofKit
import Derived.OpenShut
import Derived.ShutString
import Derived.ChangeOld
import Derived.Below
import Derived.SizedLaws

namespace Go.Proofs.Ytdlakbgcflekkaa.riceDecodes
open Go.ChangeShapes Go.WideShapes Go.ChangeAt Go.RowKit
open Go.ChangeMaps (open_string shut_string)
set_option linter.unusedSimpArgs false
set_option linter.unusedVariables false

theorem own : ownKnob Try.prog.godebug = none := by kernel_rfl
theorem laidOut : laidOutB Try.prog = true := by kernel_rfl

theorem decP_num {s : ByteArray} {a : Nat} {b r : Int} {c : Rc} {L : List Int} {a2 : Nat} (h : decP s a b r = some (c, L, a2)) : L.length ≤ 65535 ∧ c.P.length ≤ 32768 ∧ c.E.length ≤ 32768 ∧ (∀ x ∈ L, -9223372036854775808 ≤ x ∧ x ≤ 9223372036854775807) ∧ (∀ x ∈ c.P, -9223372036854775808 ≤ x ∧ x ≤ 9223372036854775807) ∧ (∀ x ∈ c.E, -9223372036854775808 ≤ x ∧ x ≤ 9223372036854775807) ∧ 0 ≤ c.m ∧ c.m ≤ 1 ∧ 0 ≤ c.o ∧ c.o ≤ 15 := by
  unfold decP at h
  cases ht : rdTop s a b r with
  | none => rw [ht] at h; cases h
  | some p =>
    obtain ⟨m, o, a1⟩ := p
    have hcut := rdTop_cut ht
    obtain ⟨t1, t2, t3, t4, t5, t6, t7⟩ := rdTop_inv ht
    obtain ⟨b', r', o', rfl, rfl, rfl, hC⟩ := Cut.of hcut
    rw [ht] at h
    simp only [Int.toNat_natCast] at h
    cases hp : rdParts s m b' o' r' (2 ^ o') a1 with
    | none => rw [hp] at h; cases h
    | some d =>
      rw [hp] at h
      simp only [Option.some.injEq, Prod.mk.injEq] at h
      obtain ⟨rfl, rfl, rfl⟩ := h
      obtain ⟨l1, l2, l3⟩ := rdParts_len hp
      obtain ⟨n1, n2, n3⟩ := rdParts_num t4 t3 hp
      have h1 := frN_bound hC (2 ^ o') (Nat.le_refl _)
      have h2 := pow15 o' hC.o15
      have h3 := hC.b2
      have h4 := hC.o15
      refine ⟨by omega, by show d.P.length ≤ _; omega, by show d.E.length ≤ _; omega, n1, n2, n3, t4, t3, ?_, ?_⟩
      · show (0 : Int) ≤ (o' : Int); omega
      · show (o' : Int) ≤ 15; omega
theorem dec_both (s : ByteArray) (hs : s.size ≤ 1000000000000000000) (b r : Int) :
    ∃ (L : List Int) (c : Rc) (e : Int) (a2 : Nat), (e = 0 ∨ e = 1 ∨ e = 2) ∧ L.length ≤ 65535 ∧
      (∀ w q, Rd w q s 0 → Calls Try.prog 21 #[.pointer (some ⟨q, 0, none⟩), .int .i64 b, .int .i64 r] w fun en w' => ∃ la lc pa pc ea ec, en = .returned (.tuple #[.slice la L.length lc, riceV c pa pc ea ec, .int .i64 e]) ∧ IntsAt w' la L ∧ RcAt w' c pa ea ∧ (e = 0 → Rd w' q s a2) ∧ Stays (only q) w w' ∧ (∀ g, blockOf la = some g → w.heap.size ≤ g) ∧ (∀ g, blockOf pa = some g → w.heap.size ≤ g) ∧ (∀ g, blockOf ea = some g → w.heap.size ≤ g)) ∧
      (∀ w q, Rr w q s 0 → Calls Try.prog 22 #[.pointer (some ⟨q, 0, none⟩), .int .i64 b, .int .i64 r] w fun en w' => ∃ la lc pa pc ea ec, en = .returned (.tuple #[.slice la L.length lc, riceV c pa pc ea ec, .int .i64 e]) ∧ IntsAt w' la L ∧ RcAt w' c pa ea ∧ (e = 0 → Rr w' q s a2) ∧ Stays (only q) w w') := by
  have hZ : ∀ wx : World, RcAt wx ⟨0, 0, [], []⟩ none none := fun wx => ⟨⟨by simp, by simp, fun h => by simp at h⟩, ⟨by simp, by simp, fun h => by simp at h⟩, by show (-9223372036854775808 : Int) ≤ 0; omega, by show (0 : Int) ≤ 9223372036854775807; omega, by show (-9223372036854775808 : Int) ≤ 0; omega, by show (0 : Int) ≤ 9223372036854775807; omega⟩
  have hI : ∀ wx : World, IntsAt wx none [] := fun wx => ⟨by simp, by simp, fun h => by simp at h⟩
  have hF : ∀ w : World, (∀ g, blockOf none = some g → w.heap.size ≤ g) := fun w g hg => by cases hg
  by_cases hok : argOk b r
  · cases hd : decP s 0 b r with
    | none =>
      refine ⟨[], ⟨0, 0, [], []⟩, 2, 0, Or.inr (Or.inr rfl), by simp, fun w q h => ?_, fun w q h => ?_⟩
      · refine (decode_all q s hs 0 (Nat.zero_le _) b r hok w h).mono fun en w' hh => ?_
        rw [hd] at hh
        exact ⟨none, 0, none, 0, none, 0, hh.1, hI _, hZ _, fun h => absurd h (by decide), hh.2, hF _, hF _, hF _⟩
      · refine (xdec_all q s hs 0 (Nat.zero_le _) b r hok w h).mono fun en w' hh => ?_
        rw [hd] at hh
        exact ⟨none, 0, none, 0, none, 0, hh.1, hI _, hZ _, fun h => absurd h (by decide), hh.2⟩
    | some p =>
      obtain ⟨c, L, a2⟩ := p
      obtain ⟨n1, n2, n3, n4, n5, n6, n7, n8, n9, n10⟩ := decP_num hd
      refine ⟨L, c, 0, a2, Or.inl rfl, n1, fun w q h => ?_, fun w q h => ?_⟩
      · refine (decode_all q s hs 0 (Nat.zero_le _) b r hok w h).mono fun en w' hh => ?_
        rw [hd] at hh
        obtain ⟨gl, gp, ge, h1, h2, h3, h4, h5, h6, h7, h8, h9, h10⟩ := hh
        have fr : ∀ g0, w.heap.size ≤ g0 → (∀ g, blockOf (some (⟨g0, 0, none⟩ : Addr)) = some g → w.heap.size ≤ g) := fun g0 hg g e => by
          have : g0 = g := by simpa [blockOf] using e
          omega
        exact ⟨_, _, _, _, _, _, h1, h2.ints (by omega) n4, ⟨h3.ints (by omega) n5, h4.ints (by omega) n6, by omega, by omega, by omega, by omega⟩, fun _ => h8, h10, fr _ h5, fr _ h6, fr _ h7⟩
      · refine (xdec_all q s hs 0 (Nat.zero_le _) b r hok w h).mono fun en w' hh => ?_
        rw [hd] at hh
        obtain ⟨la, lc, pa, pc, ea, ec, h1, h2, h3, h4, h5⟩ := hh
        exact ⟨la, lc, pa, pc, ea, ec, h1, h2, h3, fun _ => h4, h5⟩
  · refine ⟨[], ⟨0, 0, [], []⟩, 1, 0, Or.inr (Or.inl rfl), by simp, fun w q h => ?_, fun w q h => ?_⟩
    · refine (decode_arg q b r w hok).mono fun en w' hh => ?_
      exact ⟨none, 0, none, 0, none, 0, hh.1, hI _, hZ _, fun h => absurd h (by decide), Stays.of_below hh.2 _, hF _, hF _, hF _⟩
    · refine (xdec_arg q b r w hok).mono fun en w' hh => ?_
      exact ⟨none, 0, none, 0, none, 0, hh.1, hI _, hZ _, fun h => absurd h (by decide), Stays.of_below hh.2 _⟩

set_option maxRecDepth 20000 in
set_option maxHeartbeats 3200000 in
theorem walk (s : ByteArray) (hs : s.size ≤ 140737488351232) (block : Int) (block1 : -9223372036854775808 ≤ block) (block2 : block ≤ 9223372036854775807) (order : Int) (order1 : -9223372036854775808 ≤ order) (order2 : order ≤ 9223372036854775807) (w : World) :
    Calls Try.prog 4 #[.string s, .int .i64 block, .int .i64 order] w fun e w' => e = .returned (.bool true) ∧ Below w.heap.size w w' := by

  have KAw : Hid (∀ wx, Calls Try.prog 9 #[] wx fun e w' => e = .returned (.bool true) ∧ Below wx.heap.size wx w') := fun wx => awake_spec wx
  have hsz : s.size ≤ 1000000000000000000 := by omega
  obtain ⟨L, c, ev, a2, hev, hL, kq0, kx0⟩ := dec_both s hsz block order
  have ko := of_spec s hsz w
  go_enter Try.func4, Try.ntmps4
  go_wp2_with fail
  refine ko.mono ?_
  rintro e w2 ⟨rfl, hrd, hb2⟩
  have hq2 := hrd.lt
  have HA3 : Hid (Below w2.heap.size w2 (w2.alloc (.cells #[.string s, .int .i64 0] 49))) := (Below.refl _ _).alloc (Nat.le_refl _) _
  have HB3 : Hid (Below w.heap.size w (w2.alloc (.cells #[.string s, .int .i64 0] 49))) := hb2.trans (HA3.out.mono hb2.size)
  have HR3 : Hid (Rd (w2.alloc (.cells #[.string s, .int .i64 0] 49)) w.heap.size s 0) := hrd.below HA3.out
  have HY3 : Hid (Rr (w2.alloc (.cells #[.string s, .int .i64 0] 49)) w2.heap.size s 0) := by show Rr _ _ _ _; unfold Rr; exact heap_alloc_new _ _
  clear hrd hb2 ko HA3
  go_wp2_with fail
  generalize hw3 : World.alloc _ _ = w3 at *
  generalize hyy : w2.heap.size = y at *
  clear hw3 hyy
  have hy3 := HY3.out.lt
  refine (kq0 w3 w.heap.size HR3.out).mono ?_
  rintro e w4 ⟨ala, alc, apa, apc, aea, aec, rfl, hli, hrc, hrd, hst, f1, f2, f3⟩
  have hns : ¬ only w.heap.size y := fun e => by unfold only at e; omega
  have HB4 : Hid (Below w.heap.size w w4) := by
    exact HB3.out.trans (only_below hst HB3.out.size (Nat.le_refl _))
  have HA5 : Hid (Below w4.heap.size w4 (w4.alloc (.cells (riceC c apa apc aea aec) 24))) := (Below.refl _ _).alloc (Nat.le_refl _) _
  have HB5 : Hid (Below w.heap.size w (w4.alloc (.cells (riceC c apa apc aea aec) 24))) := HB4.out.trans (HA5.out.mono (by have := HB4.out.size; omega))
  have hY4 := HY3.out.stays hst hns
  have hs34 := hst.size
  have HY5 : Hid (Rr (w4.alloc (.cells (riceC c apa apc aea aec) 24)) y s 0) := by show Rr _ _ _ _; unfold Rr; rw [HA5.out.block _ hY4.lt]; exact hY4
  have HX5 : Hid ((w4.alloc (.cells (riceC c apa apc aea aec) 24)).heap[w4.heap.size]? = some (.cells (riceC c apa apc aea aec) 24 (0, 0))) := heap_alloc_new _ _
  have HL5 : Hid (IntsAt (w4.alloc (.cells (riceC c apa apc aea aec) 24)) ala L) := hli.below HA5.out
  have HC5 : Hid (RcAt (w4.alloc (.cells (riceC c apa apc aea aec) 24)) c apa aea) := hrc.below HA5.out
  have HR5 : Hid (ev = 0 → Rd (w4.alloc (.cells (riceC c apa apc aea aec) 24)) w.heap.size s a2) := fun h0 => (hrd h0).below HA5.out
  have F1 : Hid (∀ g, blockOf ala = some g → w3.heap.size ≤ g) := f1
  have F2 : Hid (∀ g, blockOf apa = some g → w3.heap.size ≤ g) := f2
  have F3 : Hid (∀ g, blockOf aea = some g → w3.heap.size ≤ g) := f3
  have hs45 : w4.heap.size ≤ (w4.alloc (.cells (riceC c apa apc aea aec) 24)).heap.size := HA5.out.size
  clear hli hrc hrd hst f1 f2 f3 hY4 HB4 kq0 HY3 HR3 HA5
  go_wp2_with fail
  generalize hw5 : World.alloc _ _ = w5 at *
  generalize hk5 : w4.heap.size = k1 at *
  clear hw5 hk5
  refine (kx0 w5 y HY5.out).mono ?_
  rintro e w6 ⟨bla, blc, bpa, bpc, bea, bec, rfl, hli, hrc, hrd, hst⟩
  have hqy : ¬ only y w.heap.size := fun e => by unfold only at e; omega
  have hX6 : w6.heap[k1]? = some (.cells (riceC c apa apc aea aec) 24 (0, 0)) := by rw [hst.block _ (lt_of_block HX5.out) (fun e => by unfold only at e; omega)]; exact HX5.out
  have HA7 : Hid (Below w6.heap.size w6 (w6.alloc (.cells (riceC c bpa bpc bea bec) 24))) := (Below.refl _ _).alloc (Nat.le_refl _) _
  have hb6 : Below w.heap.size w w6 := HB5.out.trans (only_below hst HB5.out.size (by omega))
  have HB7 : Hid (Below w.heap.size w (w6.alloc (.cells (riceC c bpa bpc bea bec) 24))) := by
    exact hb6.trans (HA7.out.mono hb6.size)
  have HX7 : Hid ((w6.alloc (.cells (riceC c bpa bpc bea bec) 24)).heap[k1]? = some (.cells (riceC c apa apc aea aec) 24 (0, 0))) := by show _ = _; rw [HA7.out.block _ (lt_of_block hX6)]; exact hX6
  have HZ7 : Hid ((w6.alloc (.cells (riceC c bpa bpc bea bec) 24)).heap[w6.heap.size]? = some (.cells (riceC c bpa bpc bea bec) 24 (0, 0))) := heap_alloc_new _ _
  have HL7 : Hid (IntsAt (w6.alloc (.cells (riceC c bpa bpc bea bec) 24)) ala L) := (HL5.out.stays hst (fun g hg e => by have := F1.out g hg; unfold only at e; omega)).below HA7.out
  have HC7 : Hid (RcAt (w6.alloc (.cells (riceC c bpa bpc bea bec) 24)) c apa aea) := RcAt.below ⟨HC5.out.P.stays hst (fun g hg e => by have := F2.out g hg; unfold only at e; omega), HC5.out.E.stays hst (fun g hg e => by have := F3.out g hg; unfold only at e; omega), HC5.out.m1, HC5.out.m2, HC5.out.o1, HC5.out.o2⟩ HA7.out
  have HM7 : Hid (IntsAt (w6.alloc (.cells (riceC c bpa bpc bea bec) 24)) bla L) := hli.below HA7.out
  have HD7 : Hid (RcAt (w6.alloc (.cells (riceC c bpa bpc bea bec) 24)) c bpa bea) := hrc.below HA7.out
  have HR7 : Hid (ev = 0 → Rd (w6.alloc (.cells (riceC c bpa bpc bea bec) 24)) w.heap.size s a2) := fun h0 => ((HR5.out h0).stays hst hqy).below HA7.out
  have HY7 : Hid (ev = 0 → Rr (w6.alloc (.cells (riceC c bpa bpc bea bec) 24)) y s a2) := fun h0 => by unfold Rr; rw [HA7.out.block _ (hrd h0).lt]; exact hrd h0
  clear hli hrc hrd hst hX6 hb6 HA7 HX5 HL5 HC5 HR5 HY5 HB5 kx0 F1 F2 F3
  go_wp2_with fail
  generalize hw7 : World.alloc _ _ = w7 at *
  generalize hk7 : w6.heap.size = k2 at *
  clear hw7 hk7
  have HSC : Hid (∀ wx, Hid (Below w7.heap.size w7 wx) → wx.cell? ⟨k1, 0, none⟩ = some (.int .i64 c.m) ∧ wx.cell? ⟨k1, 1, none⟩ = some (.int .i64 c.o) ∧ wx.cell? ⟨k1, 2, none⟩ = some (.slice apa c.P.length apc) ∧ wx.cell? ⟨k1, 3, none⟩ = some (.slice aea c.E.length aec) ∧ wx.cell? ⟨k2, 0, none⟩ = some (.int .i64 c.m) ∧ wx.cell? ⟨k2, 1, none⟩ = some (.int .i64 c.o) ∧ wx.cell? ⟨k2, 2, none⟩ = some (.slice bpa c.P.length bpc) ∧ wx.cell? ⟨k2, 3, none⟩ = some (.slice bea c.E.length bec)) := fun wx hb => by
    have h1 : wx.heap[k1]? = some (.cells (riceC c apa apc aea aec) 24 (0, 0)) := by rw [hb.out.block _ (lt_of_block HX7.out)]; exact HX7.out
    have h2 : wx.heap[k2]? = some (.cells (riceC c bpa bpc bea bec) 24 (0, 0)) := by rw [hb.out.block _ (lt_of_block HZ7.out)]; exact HZ7.out
    refine ⟨?_, ?_, ?_, ?_, ?_, ?_, ?_, ?_⟩ <;> first | (rw [cell_of_row _ _ _ _ _ _ h1]; rfl) | (rw [cell_of_row _ _ _ _ _ _ h2]; rfl)
  have HSA : Hid (ev = 0 → ∀ wx, Hid (Below w7.heap.size w7 wx) → wx.cell? ⟨y, 1, none⟩ = some (.int .i64 (a2 : Int))) := fun h0 wx hb => by
    have h1 := HY7.out h0
    have h2 : Rr wx y s a2 := by unfold Rr; rw [hb.out.block _ h1.lt]; exact h1
    exact h2.c1
  have KI : Hid (∀ wx, Hid (Below w7.heap.size w7 wx) → Calls Try.prog 23 #[.slice ala L.length alc, .slice bla L.length blc] wx fun e w' => e = .returned (.bool true) ∧ Hid (Below w7.heap.size w7 w')) := fun wx hb => (ints_same L ala bla alc blc wx (HL7.out.below hb.out) (HM7.out.below hb.out)).mono fun e w' hh => by
    obtain ⟨h1, n, rfl⟩ := hh
    exact ⟨h1, Below.drewN hb.out n⟩
  have KM : Hid (∀ wx, Hid (Below w7.heap.size w7 wx) → Calls Try.prog 24 #[(riceV c apa apc aea aec), (riceV c bpa bpc bea bec)] wx fun e w' => e = .returned (.bool true) ∧ Hid (Below w7.heap.size w7 w')) := fun wx hb => (same_same c apa apc aea aec bpa bpc bea bec wx (HC7.out.below hb.out) (HD7.out.below hb.out)).mono fun e w' hh => ⟨hh.1, hb.out.trans (hh.2.mono hb.out.size)⟩
  have KA : Hid (ev = 0 → ∀ wx, Hid (Below w7.heap.size w7 wx) → Calls Try.prog 25 #[.pointer (some ⟨w.heap.size, 0, none⟩)] wx fun e w' => e = .returned (.int .i64 (a2 : Int)) ∧ Hid (Below w7.heap.size w7 w')) := fun h0 wx hb => (at_spec w.heap.size s a2 wx ((HR7.out h0).below hb.out)).mono fun e w' hh => ⟨hh.1, by rw [hh.2]; exact hb⟩
  clear HX7 HZ7 HL7 HC7 HM7 HD7 HR7 HY7
  rcases hev with rfl | rfl | rfl
  · have HSA := HSA.out rfl
    have HSA : Hid (∀ wx, Hid (Below w7.heap.size w7 wx) → wx.cell? ⟨y, 1, none⟩ = some (.int .i64 (a2 : Int))) := HSA
    have KA := KA.out rfl
    have KA : Hid (∀ wx, Hid (Below w7.heap.size w7 wx) → Calls Try.prog 25 #[.pointer (some ⟨w.heap.size, 0, none⟩)] wx fun e w' => e = .returned (.int .i64 (a2 : Int)) ∧ Hid (Below w7.heap.size w7 w')) := KA
    refine wp_region_held_drew (S := fun wx => Hid (Below w7.heap.size w7 wx)) (by kernel_rfl) ((show Hid (Below w7.heap.size w7 w7.drew) from ⟨rfl, rfl, rfl, Nat.le_refl _, fun _ _ => rfl⟩)) (fun hS => ?_)
    refine wpAnyH_take (i := 0) (v := .slice ala L.length alc) rfl (by kernel_rfl) (by kernel_rfl) (by kernel_rfl) (fun _ _ _ h => h) (Or.inl ⟨by rfl, fun w hSw => by go_simp⟩) hS ?_
    simp only [Act.put, List.getElem_toArray, List.getElem_cons_succ, List.getElem_cons_zero, List.setIfInBounds_toArray, List.set_cons_zero, List.set_cons_succ]
    refine wpAnyH_take (i := 1) (v := .slice bla L.length blc) rfl (by kernel_rfl) (by kernel_rfl) (by kernel_rfl) (fun _ _ _ h => h) (Or.inl ⟨by rfl, fun w hSw => by go_simp⟩) hS ?_
    simp only [Act.put, List.getElem_toArray, List.getElem_cons_succ, List.getElem_cons_zero, List.setIfInBounds_toArray, List.set_cons_zero, List.set_cons_succ]
    refine wpAnyH_ready (rs := [2]) (by kernel_rfl) (by simp) ?_
    refine AllReadyH.cons rfl (fun K hK => ?_) AllReadyH.nil
    go_simp
    refine (KI.out _ hS).mono ?_
    rintro e w8 ⟨rfl, h8⟩
    refine hK.out _ _ (h8) (fun hS2 => ?_)
    clear hK K
    refine wpAnyH_take (i := 3) (v := .bool false) rfl (by kernel_rfl) (by kernel_rfl) (by kernel_rfl) (fun _ _ _ h => h) (Or.inl ⟨by rfl, fun w hSw => by go_simp⟩) hS2 ?_
    simp only [Act.put, List.getElem_toArray, List.getElem_cons_succ, List.getElem_cons_zero, List.setIfInBounds_toArray, List.set_cons_zero, List.set_cons_succ]
    refine wpAnyH_take (i := 4) (v := .bool false) rfl (by kernel_rfl) (by kernel_rfl) (by kernel_rfl) (fun _ _ _ h => h) (Or.inl ⟨by rfl, fun w hSw => by go_simp⟩) hS2 ?_
    simp only [Act.put, List.getElem_toArray, List.getElem_cons_succ, List.getElem_cons_zero, List.setIfInBounds_toArray, List.set_cons_zero, List.set_cons_succ]
    refine wpAnyH_take (i := 5) (v := (riceV c apa apc aea aec)) rfl (by kernel_rfl) (by kernel_rfl) (by kernel_rfl) (fun _ _ _ h => h) (Or.inl ⟨by rfl, fun w hSw => by obtain ⟨y0, y1, y2, y3, z0, z1, z2, z3⟩ := HSC.out _ hSw; go_simp⟩) hS2 ?_
    simp only [Act.put, List.getElem_toArray, List.getElem_cons_succ, List.getElem_cons_zero, List.setIfInBounds_toArray, List.set_cons_zero, List.set_cons_succ]
    refine wpAnyH_take (i := 6) (v := (riceV c bpa bpc bea bec)) rfl (by kernel_rfl) (by kernel_rfl) (by kernel_rfl) (fun _ _ _ h => h) (Or.inl ⟨by rfl, fun w hSw => by obtain ⟨y0, y1, y2, y3, z0, z1, z2, z3⟩ := HSC.out _ hSw; go_simp⟩) hS2 ?_
    simp only [Act.put, List.getElem_toArray, List.getElem_cons_succ, List.getElem_cons_zero, List.setIfInBounds_toArray, List.set_cons_zero, List.set_cons_succ]
    refine wpAnyH_ready (rs := [7]) (by kernel_rfl) (by simp) ?_
    refine AllReadyH.cons rfl (fun K hK => ?_) AllReadyH.nil
    go_simp
    refine (KM.out _ hS2).mono ?_
    rintro e w9 ⟨rfl, h9⟩
    refine hK.out _ _ (h9) (fun hS7 => ?_)
    clear hK K
    refine wpAnyH_take (i := 8) (v := .bool false) rfl (by kernel_rfl) (by kernel_rfl) (by kernel_rfl) (fun _ _ _ h => h) (Or.inl ⟨by rfl, fun w hSw => by go_simp⟩) hS7 ?_
    simp only [Act.put, List.getElem_toArray, List.getElem_cons_succ, List.getElem_cons_zero, List.setIfInBounds_toArray, List.set_cons_zero, List.set_cons_succ]
    refine wpAnyH_take (i := 9) (v := .bool false) rfl (by kernel_rfl) (by kernel_rfl) (by kernel_rfl) (fun _ _ _ h => h) (Or.inl ⟨by rfl, fun w hSw => by go_simp⟩) hS7 ?_
    simp only [Act.put, List.getElem_toArray, List.getElem_cons_succ, List.getElem_cons_zero, List.setIfInBounds_toArray, List.set_cons_zero, List.set_cons_succ]
    refine wpAnyH_take (i := 10) (v := .bool false) rfl (by kernel_rfl) (by kernel_rfl) (by kernel_rfl) (fun _ _ _ h => h) (Or.inl ⟨by rfl, fun w hSw => by go_simp⟩) hS7 ?_
    simp only [Act.put, List.getElem_toArray, List.getElem_cons_succ, List.getElem_cons_zero, List.setIfInBounds_toArray, List.set_cons_zero, List.set_cons_succ]
    refine wpAnyH_take (i := 11) (v := .int .i64 0) rfl (by kernel_rfl) (by kernel_rfl) (by kernel_rfl) (fun _ _ _ h => h) (Or.inl ⟨by rfl, fun w hSw => by go_simp⟩) hS7 ?_
    simp only [Act.put, List.getElem_toArray, List.getElem_cons_succ, List.getElem_cons_zero, List.setIfInBounds_toArray, List.set_cons_zero, List.set_cons_succ]
    refine wpAnyH_take (i := 12) (v := .int .i64 0) rfl (by kernel_rfl) (by kernel_rfl) (by kernel_rfl) (fun _ _ _ h => h) (Or.inl ⟨by rfl, fun w hSw => by go_simp⟩) hS7 ?_
    simp only [Act.put, List.getElem_toArray, List.getElem_cons_succ, List.getElem_cons_zero, List.setIfInBounds_toArray, List.set_cons_zero, List.set_cons_succ]
    refine wpAnyH_take (i := 13) (v := .bool false) rfl (by kernel_rfl) (by kernel_rfl) (by kernel_rfl) (fun _ _ _ h => h) (Or.inl ⟨by rfl, fun w hSw => by go_simp⟩) hS7 ?_
    simp only [Act.put, List.getElem_toArray, List.getElem_cons_succ, List.getElem_cons_zero, List.setIfInBounds_toArray, List.set_cons_zero, List.set_cons_succ]
    refine wpAnyH_take (i := 14) (v := .bool false) rfl (by kernel_rfl) (by kernel_rfl) (by kernel_rfl) (fun _ _ _ h => h) (Or.inl ⟨by rfl, fun w hSw => by go_simp⟩) hS7 ?_
    simp only [Act.put, List.getElem_toArray, List.getElem_cons_succ, List.getElem_cons_zero, List.setIfInBounds_toArray, List.set_cons_zero, List.set_cons_succ]
    refine wpAnyH_take (i := 15) (v := .bool false) rfl (by kernel_rfl) (by kernel_rfl) (by kernel_rfl) (fun _ _ _ h => h) (Or.inl ⟨by rfl, fun w hSw => by go_simp⟩) hS7 ?_
    simp only [Act.put, List.getElem_toArray, List.getElem_cons_succ, List.getElem_cons_zero, List.setIfInBounds_toArray, List.set_cons_zero, List.set_cons_succ]
    refine wpAnyH_take (i := 16) (v := .int .i64 0) rfl (by kernel_rfl) (by kernel_rfl) (by kernel_rfl) (fun _ _ _ h => h) (Or.inl ⟨by rfl, fun w hSw => by go_simp⟩) hS7 ?_
    simp only [Act.put, List.getElem_toArray, List.getElem_cons_succ, List.getElem_cons_zero, List.setIfInBounds_toArray, List.set_cons_zero, List.set_cons_succ]
    refine wpAnyH_take (i := 17) (v := .bool true) rfl (by kernel_rfl) (by kernel_rfl) (by kernel_rfl) (fun _ _ _ h => h) (Or.inl ⟨by rfl, fun w hSw => by go_simp⟩) hS7 ?_
    simp only [Act.put, List.getElem_toArray, List.getElem_cons_succ, List.getElem_cons_zero, List.setIfInBounds_toArray, List.set_cons_zero, List.set_cons_succ]
    refine wpAnyH_take (i := 18) (v := .bool true) rfl (by kernel_rfl) (by kernel_rfl) (by kernel_rfl) (fun _ _ _ h => h) (Or.inl ⟨by rfl, fun w hSw => by go_simp⟩) hS7 ?_
    simp only [Act.put, List.getElem_toArray, List.getElem_cons_succ, List.getElem_cons_zero, List.setIfInBounds_toArray, List.set_cons_zero, List.set_cons_succ]
    refine wpAnyH_take (i := 19) (v := .pointer (some ⟨w.heap.size, 0, none⟩)) rfl (by kernel_rfl) (by kernel_rfl) (by kernel_rfl) (fun _ _ _ h => h) (Or.inl ⟨by rfl, fun w hSw => by go_simp⟩) hS7 ?_
    simp only [Act.put, List.getElem_toArray, List.getElem_cons_succ, List.getElem_cons_zero, List.setIfInBounds_toArray, List.set_cons_zero, List.set_cons_succ]
    refine wpAnyH_take (i := 21) (v := .pointer (some ⟨y, 0, none⟩)) rfl (by kernel_rfl) (by kernel_rfl) (by kernel_rfl) (fun _ _ _ h => h) (Or.inl ⟨by rfl, fun w hSw => by go_simp⟩) hS7 ?_
    simp only [Act.put, List.getElem_toArray, List.getElem_cons_succ, List.getElem_cons_zero, List.setIfInBounds_toArray, List.set_cons_zero, List.set_cons_succ]
    refine wpAnyH_take (i := 22) (v := .pointer (some ⟨y, 0, none⟩)) rfl (by kernel_rfl) (by kernel_rfl) (by kernel_rfl) (fun _ _ _ h => h) (Or.inl ⟨by rfl, fun w hSw => by go_simp⟩) hS7 ?_
    simp only [Act.put, List.getElem_toArray, List.getElem_cons_succ, List.getElem_cons_zero, List.setIfInBounds_toArray, List.set_cons_zero, List.set_cons_succ]
    refine wpAnyH_take (i := 23) (v := .pointer (some ⟨y, 1, none⟩)) rfl (by kernel_rfl) (by kernel_rfl) (by kernel_rfl) (fun _ _ _ h => h) (Or.inl ⟨by rfl, fun w hSw => by go_simp⟩) hS7 ?_
    simp only [Act.put, List.getElem_toArray, List.getElem_cons_succ, List.getElem_cons_zero, List.setIfInBounds_toArray, List.set_cons_zero, List.set_cons_succ]
    refine wpAnyH_take (i := 24) (v := .int .i64 (a2 : Int)) rfl (by kernel_rfl) (by kernel_rfl) (by kernel_rfl) (fun _ _ _ h => h) (Or.inl ⟨by rfl, fun w hSw => by have c1 := HSA.out _ hSw; go_simp⟩) hS7 ?_
    simp only [Act.put, List.getElem_toArray, List.getElem_cons_succ, List.getElem_cons_zero, List.setIfInBounds_toArray, List.set_cons_zero, List.set_cons_succ]
    refine wpAnyH_ready (rs := [20]) (by kernel_rfl) (by simp) ?_
    refine AllReadyH.cons rfl (fun K hK => ?_) AllReadyH.nil
    go_simp
    refine (KA.out _ hS7).mono ?_
    rintro e w10 ⟨rfl, h10⟩
    refine hK.out _ _ (h10) (fun hS20 => ?_)
    clear hK K
    refine wpAnyH_take (i := 25) (v := .bool false) rfl (by kernel_rfl) (by kernel_rfl) (by kernel_rfl) (fun _ _ _ h => h) (Or.inl ⟨by rfl, fun w hSw => by go_simp⟩) hS20 ?_
    simp only [Act.put, List.getElem_toArray, List.getElem_cons_succ, List.getElem_cons_zero, List.setIfInBounds_toArray, List.set_cons_zero, List.set_cons_succ]
    refine wpAnyH_take (i := 26) (v := .bool false) rfl (by kernel_rfl) (by kernel_rfl) (by kernel_rfl) (fun _ _ _ h => h) (Or.inl ⟨by rfl, fun w hSw => by go_simp⟩) hS20 ?_
    simp only [Act.put, List.getElem_toArray, List.getElem_cons_succ, List.getElem_cons_zero, List.setIfInBounds_toArray, List.set_cons_zero, List.set_cons_succ]
    refine wpAnyH_take (i := 27) (v := .bool false) rfl (by kernel_rfl) (by kernel_rfl) (by kernel_rfl) (fun _ _ _ h => h) (Or.inl ⟨by rfl, fun w hSw => by go_simp⟩) hS20 ?_
    simp only [Act.put, List.getElem_toArray, List.getElem_cons_succ, List.getElem_cons_zero, List.setIfInBounds_toArray, List.set_cons_zero, List.set_cons_succ]
    refine wpAnyH_done (by kernel_rfl) ?_ _
    go_wp2_with fail
    have HBX : Hid (Below w.heap.size w w10) := HB7.out.trans (hS20.out.mono HB7.out.size)
    refine (decode_nil block order w10).mono ?_
    rintro e w11 ⟨rfl, hb11⟩
    have HB12 : Hid (Below w.heap.size w (w11.alloc (.cells #[.int .i64 0, .int .i64 0, .slice none 0 0, .slice none 0 0] 24))) := (HBX.out.trans (hb11.mono HBX.out.size)).alloc (by have := HBX.out.size; have := hb11.size; omega) _
    clear hb11
    go_wp2_with fail
    generalize hw12 : World.alloc _ _ = w12 at *
    clear hw12
    refine (KAw.out w12).mono ?_
    rintro e w13 ⟨rfl, hb13⟩
    have HB13 : Hid (Below w.heap.size w w13) := HB12.out.trans (hb13.mono HB12.out.size)
    clear hb13
    go_wp2_with fail
    go_ret
    exact ⟨rfl, HB13.out⟩
  · clear HSA KA
    refine wp_region_held_drew (S := fun wx => Hid (Below w7.heap.size w7 wx)) (by kernel_rfl) ((show Hid (Below w7.heap.size w7 w7.drew) from ⟨rfl, rfl, rfl, Nat.le_refl _, fun _ _ => rfl⟩)) (fun hS => ?_)
    refine wpAnyH_take (i := 0) (v := .slice ala L.length alc) rfl (by kernel_rfl) (by kernel_rfl) (by kernel_rfl) (fun _ _ _ h => h) (Or.inl ⟨by rfl, fun w hSw => by go_simp⟩) hS ?_
    simp only [Act.put, List.getElem_toArray, List.getElem_cons_succ, List.getElem_cons_zero, List.setIfInBounds_toArray, List.set_cons_zero, List.set_cons_succ]
    refine wpAnyH_take (i := 1) (v := .slice bla L.length blc) rfl (by kernel_rfl) (by kernel_rfl) (by kernel_rfl) (fun _ _ _ h => h) (Or.inl ⟨by rfl, fun w hSw => by go_simp⟩) hS ?_
    simp only [Act.put, List.getElem_toArray, List.getElem_cons_succ, List.getElem_cons_zero, List.setIfInBounds_toArray, List.set_cons_zero, List.set_cons_succ]
    refine wpAnyH_ready (rs := [2]) (by kernel_rfl) (by simp) ?_
    refine AllReadyH.cons rfl (fun K hK => ?_) AllReadyH.nil
    go_simp
    refine (KI.out _ hS).mono ?_
    rintro e w8 ⟨rfl, h8⟩
    refine hK.out _ _ (h8) (fun hS2 => ?_)
    clear hK K
    refine wpAnyH_take (i := 3) (v := .bool false) rfl (by kernel_rfl) (by kernel_rfl) (by kernel_rfl) (fun _ _ _ h => h) (Or.inl ⟨by rfl, fun w hSw => by go_simp⟩) hS2 ?_
    simp only [Act.put, List.getElem_toArray, List.getElem_cons_succ, List.getElem_cons_zero, List.setIfInBounds_toArray, List.set_cons_zero, List.set_cons_succ]
    refine wpAnyH_take (i := 4) (v := .bool false) rfl (by kernel_rfl) (by kernel_rfl) (by kernel_rfl) (fun _ _ _ h => h) (Or.inl ⟨by rfl, fun w hSw => by go_simp⟩) hS2 ?_
    simp only [Act.put, List.getElem_toArray, List.getElem_cons_succ, List.getElem_cons_zero, List.setIfInBounds_toArray, List.set_cons_zero, List.set_cons_succ]
    refine wpAnyH_take (i := 5) (v := (riceV c apa apc aea aec)) rfl (by kernel_rfl) (by kernel_rfl) (by kernel_rfl) (fun _ _ _ h => h) (Or.inl ⟨by rfl, fun w hSw => by obtain ⟨y0, y1, y2, y3, z0, z1, z2, z3⟩ := HSC.out _ hSw; go_simp⟩) hS2 ?_
    simp only [Act.put, List.getElem_toArray, List.getElem_cons_succ, List.getElem_cons_zero, List.setIfInBounds_toArray, List.set_cons_zero, List.set_cons_succ]
    refine wpAnyH_take (i := 6) (v := (riceV c bpa bpc bea bec)) rfl (by kernel_rfl) (by kernel_rfl) (by kernel_rfl) (fun _ _ _ h => h) (Or.inl ⟨by rfl, fun w hSw => by obtain ⟨y0, y1, y2, y3, z0, z1, z2, z3⟩ := HSC.out _ hSw; go_simp⟩) hS2 ?_
    simp only [Act.put, List.getElem_toArray, List.getElem_cons_succ, List.getElem_cons_zero, List.setIfInBounds_toArray, List.set_cons_zero, List.set_cons_succ]
    refine wpAnyH_ready (rs := [7]) (by kernel_rfl) (by simp) ?_
    refine AllReadyH.cons rfl (fun K hK => ?_) AllReadyH.nil
    go_simp
    refine (KM.out _ hS2).mono ?_
    rintro e w9 ⟨rfl, h9⟩
    refine hK.out _ _ (h9) (fun hS7 => ?_)
    clear hK K
    refine wpAnyH_take (i := 8) (v := .bool false) rfl (by kernel_rfl) (by kernel_rfl) (by kernel_rfl) (fun _ _ _ h => h) (Or.inl ⟨by rfl, fun w hSw => by go_simp⟩) hS7 ?_
    simp only [Act.put, List.getElem_toArray, List.getElem_cons_succ, List.getElem_cons_zero, List.setIfInBounds_toArray, List.set_cons_zero, List.set_cons_succ]
    refine wpAnyH_take (i := 9) (v := .bool false) rfl (by kernel_rfl) (by kernel_rfl) (by kernel_rfl) (fun _ _ _ h => h) (Or.inl ⟨by rfl, fun w hSw => by go_simp⟩) hS7 ?_
    simp only [Act.put, List.getElem_toArray, List.getElem_cons_succ, List.getElem_cons_zero, List.setIfInBounds_toArray, List.set_cons_zero, List.set_cons_succ]
    refine wpAnyH_take (i := 10) (v := .bool false) rfl (by kernel_rfl) (by kernel_rfl) (by kernel_rfl) (fun _ _ _ h => h) (Or.inl ⟨by rfl, fun w hSw => by go_simp⟩) hS7 ?_
    simp only [Act.put, List.getElem_toArray, List.getElem_cons_succ, List.getElem_cons_zero, List.setIfInBounds_toArray, List.set_cons_zero, List.set_cons_succ]
    refine wpAnyH_take (i := 11) (v := .int .i64 1) rfl (by kernel_rfl) (by kernel_rfl) (by kernel_rfl) (fun _ _ _ h => h) (Or.inl ⟨by rfl, fun w hSw => by go_simp⟩) hS7 ?_
    simp only [Act.put, List.getElem_toArray, List.getElem_cons_succ, List.getElem_cons_zero, List.setIfInBounds_toArray, List.set_cons_zero, List.set_cons_succ]
    refine wpAnyH_take (i := 12) (v := .int .i64 1) rfl (by kernel_rfl) (by kernel_rfl) (by kernel_rfl) (fun _ _ _ h => h) (Or.inl ⟨by rfl, fun w hSw => by go_simp⟩) hS7 ?_
    simp only [Act.put, List.getElem_toArray, List.getElem_cons_succ, List.getElem_cons_zero, List.setIfInBounds_toArray, List.set_cons_zero, List.set_cons_succ]
    refine wpAnyH_take (i := 13) (v := .bool false) rfl (by kernel_rfl) (by kernel_rfl) (by kernel_rfl) (fun _ _ _ h => h) (Or.inl ⟨by rfl, fun w hSw => by go_simp⟩) hS7 ?_
    simp only [Act.put, List.getElem_toArray, List.getElem_cons_succ, List.getElem_cons_zero, List.setIfInBounds_toArray, List.set_cons_zero, List.set_cons_succ]
    refine wpAnyH_take (i := 14) (v := .bool false) rfl (by kernel_rfl) (by kernel_rfl) (by kernel_rfl) (fun _ _ _ h => h) (Or.inl ⟨by rfl, fun w hSw => by go_simp⟩) hS7 ?_
    simp only [Act.put, List.getElem_toArray, List.getElem_cons_succ, List.getElem_cons_zero, List.setIfInBounds_toArray, List.set_cons_zero, List.set_cons_succ]
    refine wpAnyH_take (i := 15) (v := .bool false) rfl (by kernel_rfl) (by kernel_rfl) (by kernel_rfl) (fun _ _ _ h => h) (Or.inl ⟨by rfl, fun w hSw => by go_simp⟩) hS7 ?_
    simp only [Act.put, List.getElem_toArray, List.getElem_cons_succ, List.getElem_cons_zero, List.setIfInBounds_toArray, List.set_cons_zero, List.set_cons_succ]
    refine wpAnyH_take (i := 16) (v := .int .i64 1) rfl (by kernel_rfl) (by kernel_rfl) (by kernel_rfl) (fun _ _ _ h => h) (Or.inl ⟨by rfl, fun w hSw => by go_simp⟩) hS7 ?_
    simp only [Act.put, List.getElem_toArray, List.getElem_cons_succ, List.getElem_cons_zero, List.setIfInBounds_toArray, List.set_cons_zero, List.set_cons_succ]
    refine wpAnyH_take (i := 17) (v := .bool false) rfl (by kernel_rfl) (by kernel_rfl) (by kernel_rfl) (fun _ _ _ h => h) (Or.inl ⟨by rfl, fun w hSw => by go_simp⟩) hS7 ?_
    simp only [Act.put, List.getElem_toArray, List.getElem_cons_succ, List.getElem_cons_zero, List.setIfInBounds_toArray, List.set_cons_zero, List.set_cons_succ]
    refine wpAnyH_take (i := 18) (v := .bool false) rfl (by kernel_rfl) (by kernel_rfl) (by kernel_rfl) (fun _ _ _ h => h) (Or.inl ⟨by rfl, fun w hSw => by go_simp⟩) hS7 ?_
    simp only [Act.put, List.getElem_toArray, List.getElem_cons_succ, List.getElem_cons_zero, List.setIfInBounds_toArray, List.set_cons_zero, List.set_cons_succ]
    refine wpAnyH_take (i := 19) (v := undef) rfl (by kernel_rfl) (by kernel_rfl) (by kernel_rfl) (fun _ _ _ h => h) (Or.inr ⟨by rfl, rfl⟩) hS7 ?_
    simp only [Act.put, List.getElem_toArray, List.getElem_cons_succ, List.getElem_cons_zero, List.setIfInBounds_toArray, List.set_cons_zero, List.set_cons_succ]
    refine wpAnyH_take (i := 20) (v := undef) rfl (by kernel_rfl) (by kernel_rfl) (by kernel_rfl) (fun _ _ _ h => h) (Or.inr ⟨by rfl, rfl⟩) hS7 ?_
    simp only [Act.put, List.getElem_toArray, List.getElem_cons_succ, List.getElem_cons_zero, List.setIfInBounds_toArray, List.set_cons_zero, List.set_cons_succ]
    refine wpAnyH_take (i := 21) (v := undef) rfl (by kernel_rfl) (by kernel_rfl) (by kernel_rfl) (fun _ _ _ h => h) (Or.inr ⟨by rfl, rfl⟩) hS7 ?_
    simp only [Act.put, List.getElem_toArray, List.getElem_cons_succ, List.getElem_cons_zero, List.setIfInBounds_toArray, List.set_cons_zero, List.set_cons_succ]
    refine wpAnyH_take (i := 22) (v := undef) rfl (by kernel_rfl) (by kernel_rfl) (by kernel_rfl) (fun _ _ _ h => h) (Or.inr ⟨by rfl, rfl⟩) hS7 ?_
    simp only [Act.put, List.getElem_toArray, List.getElem_cons_succ, List.getElem_cons_zero, List.setIfInBounds_toArray, List.set_cons_zero, List.set_cons_succ]
    refine wpAnyH_take (i := 23) (v := undef) rfl (by kernel_rfl) (by kernel_rfl) (by kernel_rfl) (fun _ _ _ h => h) (Or.inr ⟨by rfl, rfl⟩) hS7 ?_
    simp only [Act.put, List.getElem_toArray, List.getElem_cons_succ, List.getElem_cons_zero, List.setIfInBounds_toArray, List.set_cons_zero, List.set_cons_succ]
    refine wpAnyH_take (i := 24) (v := undef) rfl (by kernel_rfl) (by kernel_rfl) (by kernel_rfl) (fun _ _ _ h => h) (Or.inr ⟨by rfl, rfl⟩) hS7 ?_
    simp only [Act.put, List.getElem_toArray, List.getElem_cons_succ, List.getElem_cons_zero, List.setIfInBounds_toArray, List.set_cons_zero, List.set_cons_succ]
    refine wpAnyH_take (i := 25) (v := undef) rfl (by kernel_rfl) (by kernel_rfl) (by kernel_rfl) (fun _ _ _ h => h) (Or.inr ⟨by rfl, rfl⟩) hS7 ?_
    simp only [Act.put, List.getElem_toArray, List.getElem_cons_succ, List.getElem_cons_zero, List.setIfInBounds_toArray, List.set_cons_zero, List.set_cons_succ]
    refine wpAnyH_take (i := 26) (v := .bool false) rfl (by kernel_rfl) (by kernel_rfl) (by kernel_rfl) (fun _ _ _ h => h) (Or.inl ⟨by rfl, fun w hSw => by go_simp⟩) hS7 ?_
    simp only [Act.put, List.getElem_toArray, List.getElem_cons_succ, List.getElem_cons_zero, List.setIfInBounds_toArray, List.set_cons_zero, List.set_cons_succ]
    refine wpAnyH_take (i := 27) (v := .bool false) rfl (by kernel_rfl) (by kernel_rfl) (by kernel_rfl) (fun _ _ _ h => h) (Or.inl ⟨by rfl, fun w hSw => by go_simp⟩) hS7 ?_
    simp only [Act.put, List.getElem_toArray, List.getElem_cons_succ, List.getElem_cons_zero, List.setIfInBounds_toArray, List.set_cons_zero, List.set_cons_succ]
    refine wpAnyH_done (by kernel_rfl) ?_ _
    go_wp2_with fail
    have HBX : Hid (Below w.heap.size w w9) := HB7.out.trans (hS7.out.mono HB7.out.size)
    refine (decode_nil block order w9).mono ?_
    rintro e w11 ⟨rfl, hb11⟩
    have HB12 : Hid (Below w.heap.size w (w11.alloc (.cells #[.int .i64 0, .int .i64 0, .slice none 0 0, .slice none 0 0] 24))) := (HBX.out.trans (hb11.mono HBX.out.size)).alloc (by have := HBX.out.size; have := hb11.size; omega) _
    clear hb11
    go_wp2_with fail
    generalize hw12 : World.alloc _ _ = w12 at *
    clear hw12
    refine (KAw.out w12).mono ?_
    rintro e w13 ⟨rfl, hb13⟩
    have HB13 : Hid (Below w.heap.size w w13) := HB12.out.trans (hb13.mono HB12.out.size)
    clear hb13
    go_wp2_with fail
    go_ret
    exact ⟨rfl, HB13.out⟩
  · clear HSA KA
    refine wp_region_held_drew (S := fun wx => Hid (Below w7.heap.size w7 wx)) (by kernel_rfl) ((show Hid (Below w7.heap.size w7 w7.drew) from ⟨rfl, rfl, rfl, Nat.le_refl _, fun _ _ => rfl⟩)) (fun hS => ?_)
    refine wpAnyH_take (i := 0) (v := .slice ala L.length alc) rfl (by kernel_rfl) (by kernel_rfl) (by kernel_rfl) (fun _ _ _ h => h) (Or.inl ⟨by rfl, fun w hSw => by go_simp⟩) hS ?_
    simp only [Act.put, List.getElem_toArray, List.getElem_cons_succ, List.getElem_cons_zero, List.setIfInBounds_toArray, List.set_cons_zero, List.set_cons_succ]
    refine wpAnyH_take (i := 1) (v := .slice bla L.length blc) rfl (by kernel_rfl) (by kernel_rfl) (by kernel_rfl) (fun _ _ _ h => h) (Or.inl ⟨by rfl, fun w hSw => by go_simp⟩) hS ?_
    simp only [Act.put, List.getElem_toArray, List.getElem_cons_succ, List.getElem_cons_zero, List.setIfInBounds_toArray, List.set_cons_zero, List.set_cons_succ]
    refine wpAnyH_ready (rs := [2]) (by kernel_rfl) (by simp) ?_
    refine AllReadyH.cons rfl (fun K hK => ?_) AllReadyH.nil
    go_simp
    refine (KI.out _ hS).mono ?_
    rintro e w8 ⟨rfl, h8⟩
    refine hK.out _ _ (h8) (fun hS2 => ?_)
    clear hK K
    refine wpAnyH_take (i := 3) (v := .bool false) rfl (by kernel_rfl) (by kernel_rfl) (by kernel_rfl) (fun _ _ _ h => h) (Or.inl ⟨by rfl, fun w hSw => by go_simp⟩) hS2 ?_
    simp only [Act.put, List.getElem_toArray, List.getElem_cons_succ, List.getElem_cons_zero, List.setIfInBounds_toArray, List.set_cons_zero, List.set_cons_succ]
    refine wpAnyH_take (i := 4) (v := .bool false) rfl (by kernel_rfl) (by kernel_rfl) (by kernel_rfl) (fun _ _ _ h => h) (Or.inl ⟨by rfl, fun w hSw => by go_simp⟩) hS2 ?_
    simp only [Act.put, List.getElem_toArray, List.getElem_cons_succ, List.getElem_cons_zero, List.setIfInBounds_toArray, List.set_cons_zero, List.set_cons_succ]
    refine wpAnyH_take (i := 5) (v := (riceV c apa apc aea aec)) rfl (by kernel_rfl) (by kernel_rfl) (by kernel_rfl) (fun _ _ _ h => h) (Or.inl ⟨by rfl, fun w hSw => by obtain ⟨y0, y1, y2, y3, z0, z1, z2, z3⟩ := HSC.out _ hSw; go_simp⟩) hS2 ?_
    simp only [Act.put, List.getElem_toArray, List.getElem_cons_succ, List.getElem_cons_zero, List.setIfInBounds_toArray, List.set_cons_zero, List.set_cons_succ]
    refine wpAnyH_take (i := 6) (v := (riceV c bpa bpc bea bec)) rfl (by kernel_rfl) (by kernel_rfl) (by kernel_rfl) (fun _ _ _ h => h) (Or.inl ⟨by rfl, fun w hSw => by obtain ⟨y0, y1, y2, y3, z0, z1, z2, z3⟩ := HSC.out _ hSw; go_simp⟩) hS2 ?_
    simp only [Act.put, List.getElem_toArray, List.getElem_cons_succ, List.getElem_cons_zero, List.setIfInBounds_toArray, List.set_cons_zero, List.set_cons_succ]
    refine wpAnyH_ready (rs := [7]) (by kernel_rfl) (by simp) ?_
    refine AllReadyH.cons rfl (fun K hK => ?_) AllReadyH.nil
    go_simp
    refine (KM.out _ hS2).mono ?_
    rintro e w9 ⟨rfl, h9⟩
    refine hK.out _ _ (h9) (fun hS7 => ?_)
    clear hK K
    refine wpAnyH_take (i := 8) (v := .bool false) rfl (by kernel_rfl) (by kernel_rfl) (by kernel_rfl) (fun _ _ _ h => h) (Or.inl ⟨by rfl, fun w hSw => by go_simp⟩) hS7 ?_
    simp only [Act.put, List.getElem_toArray, List.getElem_cons_succ, List.getElem_cons_zero, List.setIfInBounds_toArray, List.set_cons_zero, List.set_cons_succ]
    refine wpAnyH_take (i := 9) (v := .bool false) rfl (by kernel_rfl) (by kernel_rfl) (by kernel_rfl) (fun _ _ _ h => h) (Or.inl ⟨by rfl, fun w hSw => by go_simp⟩) hS7 ?_
    simp only [Act.put, List.getElem_toArray, List.getElem_cons_succ, List.getElem_cons_zero, List.setIfInBounds_toArray, List.set_cons_zero, List.set_cons_succ]
    refine wpAnyH_take (i := 10) (v := .bool false) rfl (by kernel_rfl) (by kernel_rfl) (by kernel_rfl) (fun _ _ _ h => h) (Or.inl ⟨by rfl, fun w hSw => by go_simp⟩) hS7 ?_
    simp only [Act.put, List.getElem_toArray, List.getElem_cons_succ, List.getElem_cons_zero, List.setIfInBounds_toArray, List.set_cons_zero, List.set_cons_succ]
    refine wpAnyH_take (i := 11) (v := .int .i64 2) rfl (by kernel_rfl) (by kernel_rfl) (by kernel_rfl) (fun _ _ _ h => h) (Or.inl ⟨by rfl, fun w hSw => by go_simp⟩) hS7 ?_
    simp only [Act.put, List.getElem_toArray, List.getElem_cons_succ, List.getElem_cons_zero, List.setIfInBounds_toArray, List.set_cons_zero, List.set_cons_succ]
    refine wpAnyH_take (i := 12) (v := .int .i64 2) rfl (by kernel_rfl) (by kernel_rfl) (by kernel_rfl) (fun _ _ _ h => h) (Or.inl ⟨by rfl, fun w hSw => by go_simp⟩) hS7 ?_
    simp only [Act.put, List.getElem_toArray, List.getElem_cons_succ, List.getElem_cons_zero, List.setIfInBounds_toArray, List.set_cons_zero, List.set_cons_succ]
    refine wpAnyH_take (i := 13) (v := .bool false) rfl (by kernel_rfl) (by kernel_rfl) (by kernel_rfl) (fun _ _ _ h => h) (Or.inl ⟨by rfl, fun w hSw => by go_simp⟩) hS7 ?_
    simp only [Act.put, List.getElem_toArray, List.getElem_cons_succ, List.getElem_cons_zero, List.setIfInBounds_toArray, List.set_cons_zero, List.set_cons_succ]
    refine wpAnyH_take (i := 14) (v := .bool false) rfl (by kernel_rfl) (by kernel_rfl) (by kernel_rfl) (fun _ _ _ h => h) (Or.inl ⟨by rfl, fun w hSw => by go_simp⟩) hS7 ?_
    simp only [Act.put, List.getElem_toArray, List.getElem_cons_succ, List.getElem_cons_zero, List.setIfInBounds_toArray, List.set_cons_zero, List.set_cons_succ]
    refine wpAnyH_take (i := 15) (v := .bool false) rfl (by kernel_rfl) (by kernel_rfl) (by kernel_rfl) (fun _ _ _ h => h) (Or.inl ⟨by rfl, fun w hSw => by go_simp⟩) hS7 ?_
    simp only [Act.put, List.getElem_toArray, List.getElem_cons_succ, List.getElem_cons_zero, List.setIfInBounds_toArray, List.set_cons_zero, List.set_cons_succ]
    refine wpAnyH_take (i := 16) (v := .int .i64 2) rfl (by kernel_rfl) (by kernel_rfl) (by kernel_rfl) (fun _ _ _ h => h) (Or.inl ⟨by rfl, fun w hSw => by go_simp⟩) hS7 ?_
    simp only [Act.put, List.getElem_toArray, List.getElem_cons_succ, List.getElem_cons_zero, List.setIfInBounds_toArray, List.set_cons_zero, List.set_cons_succ]
    refine wpAnyH_take (i := 17) (v := .bool false) rfl (by kernel_rfl) (by kernel_rfl) (by kernel_rfl) (fun _ _ _ h => h) (Or.inl ⟨by rfl, fun w hSw => by go_simp⟩) hS7 ?_
    simp only [Act.put, List.getElem_toArray, List.getElem_cons_succ, List.getElem_cons_zero, List.setIfInBounds_toArray, List.set_cons_zero, List.set_cons_succ]
    refine wpAnyH_take (i := 18) (v := .bool false) rfl (by kernel_rfl) (by kernel_rfl) (by kernel_rfl) (fun _ _ _ h => h) (Or.inl ⟨by rfl, fun w hSw => by go_simp⟩) hS7 ?_
    simp only [Act.put, List.getElem_toArray, List.getElem_cons_succ, List.getElem_cons_zero, List.setIfInBounds_toArray, List.set_cons_zero, List.set_cons_succ]
    refine wpAnyH_take (i := 19) (v := undef) rfl (by kernel_rfl) (by kernel_rfl) (by kernel_rfl) (fun _ _ _ h => h) (Or.inr ⟨by rfl, rfl⟩) hS7 ?_
    simp only [Act.put, List.getElem_toArray, List.getElem_cons_succ, List.getElem_cons_zero, List.setIfInBounds_toArray, List.set_cons_zero, List.set_cons_succ]
    refine wpAnyH_take (i := 20) (v := undef) rfl (by kernel_rfl) (by kernel_rfl) (by kernel_rfl) (fun _ _ _ h => h) (Or.inr ⟨by rfl, rfl⟩) hS7 ?_
    simp only [Act.put, List.getElem_toArray, List.getElem_cons_succ, List.getElem_cons_zero, List.setIfInBounds_toArray, List.set_cons_zero, List.set_cons_succ]
    refine wpAnyH_take (i := 21) (v := undef) rfl (by kernel_rfl) (by kernel_rfl) (by kernel_rfl) (fun _ _ _ h => h) (Or.inr ⟨by rfl, rfl⟩) hS7 ?_
    simp only [Act.put, List.getElem_toArray, List.getElem_cons_succ, List.getElem_cons_zero, List.setIfInBounds_toArray, List.set_cons_zero, List.set_cons_succ]
    refine wpAnyH_take (i := 22) (v := undef) rfl (by kernel_rfl) (by kernel_rfl) (by kernel_rfl) (fun _ _ _ h => h) (Or.inr ⟨by rfl, rfl⟩) hS7 ?_
    simp only [Act.put, List.getElem_toArray, List.getElem_cons_succ, List.getElem_cons_zero, List.setIfInBounds_toArray, List.set_cons_zero, List.set_cons_succ]
    refine wpAnyH_take (i := 23) (v := undef) rfl (by kernel_rfl) (by kernel_rfl) (by kernel_rfl) (fun _ _ _ h => h) (Or.inr ⟨by rfl, rfl⟩) hS7 ?_
    simp only [Act.put, List.getElem_toArray, List.getElem_cons_succ, List.getElem_cons_zero, List.setIfInBounds_toArray, List.set_cons_zero, List.set_cons_succ]
    refine wpAnyH_take (i := 24) (v := undef) rfl (by kernel_rfl) (by kernel_rfl) (by kernel_rfl) (fun _ _ _ h => h) (Or.inr ⟨by rfl, rfl⟩) hS7 ?_
    simp only [Act.put, List.getElem_toArray, List.getElem_cons_succ, List.getElem_cons_zero, List.setIfInBounds_toArray, List.set_cons_zero, List.set_cons_succ]
    refine wpAnyH_take (i := 25) (v := undef) rfl (by kernel_rfl) (by kernel_rfl) (by kernel_rfl) (fun _ _ _ h => h) (Or.inr ⟨by rfl, rfl⟩) hS7 ?_
    simp only [Act.put, List.getElem_toArray, List.getElem_cons_succ, List.getElem_cons_zero, List.setIfInBounds_toArray, List.set_cons_zero, List.set_cons_succ]
    refine wpAnyH_take (i := 26) (v := .bool false) rfl (by kernel_rfl) (by kernel_rfl) (by kernel_rfl) (fun _ _ _ h => h) (Or.inl ⟨by rfl, fun w hSw => by go_simp⟩) hS7 ?_
    simp only [Act.put, List.getElem_toArray, List.getElem_cons_succ, List.getElem_cons_zero, List.setIfInBounds_toArray, List.set_cons_zero, List.set_cons_succ]
    refine wpAnyH_take (i := 27) (v := .bool false) rfl (by kernel_rfl) (by kernel_rfl) (by kernel_rfl) (fun _ _ _ h => h) (Or.inl ⟨by rfl, fun w hSw => by go_simp⟩) hS7 ?_
    simp only [Act.put, List.getElem_toArray, List.getElem_cons_succ, List.getElem_cons_zero, List.setIfInBounds_toArray, List.set_cons_zero, List.set_cons_succ]
    refine wpAnyH_done (by kernel_rfl) ?_ _
    go_wp2_with fail
    have HBX : Hid (Below w.heap.size w w9) := HB7.out.trans (hS7.out.mono HB7.out.size)
    refine (decode_nil block order w9).mono ?_
    rintro e w11 ⟨rfl, hb11⟩
    have HB12 : Hid (Below w.heap.size w (w11.alloc (.cells #[.int .i64 0, .int .i64 0, .slice none 0 0, .slice none 0 0] 24))) := (HBX.out.trans (hb11.mono HBX.out.size)).alloc (by have := HBX.out.size; have := hb11.size; omega) _
    clear hb11
    go_wp2_with fail
    generalize hw12 : World.alloc _ _ = w12 at *
    clear hw12
    refine (KAw.out w12).mono ?_
    rintro e w13 ⟨rfl, hb13⟩
    have HB13 : Hid (Below w.heap.size w w13) := HB12.out.trans (hb13.mono HB12.out.size)
    clear hb13
    go_wp2_with fail
    go_ret
    exact ⟨rfl, HB13.out⟩


set_option maxRecDepth 100000 in
theorem lifted (os : Os) (started : os.Started) (H : Type) (enc : TypeId × Value → H) :
    ReturnsInHanded {} Try.checked os 4 .any (Rows.riceDecodesSpec.pre6 enc Try.prog Try.f4 Rows.riceDecodesRow.domain false) (Rows.riceDecodesSpec.post enc Try.prog Try.f4 false true false false) := by
  refine returnsInHanded_of_change_sized (C := Try.checked) own started (by kernel_rfl) Try.func4
    (ChangeSpec.witness6 (enc := enc) (C := Try.checked) false ⟨#[], #[.string ByteArray.empty, .int .i64 0, .int .i64 0], []⟩ 8 (by kernel_rfl) (by kernel_rfl) (by kernel_rfl) (by kernel_rfl)) ?_
  intro W base args ds gs before hval0 hW hcnd0 hsz0 hholds
  have hval : ∀ (j : Nat) t v, Try.f4.params[j]? = some t → args[j]? = some v → Value.okWide Try.prog W .any base t v := hval0
  have hsz : (DataW.weightsEach Try.prog (Try.f4.params.toList ++ Rows.riceDecodesSpec.plain.varTypes Try.prog) (ds ++ gs)).all (· ≤ reachBytes) = true := hsz0
  have hW' := hW
  obtain ⟨p, q, hA0, hV, rfl, hfz, hnd⟩ := hW
  have hA : DataW.TrodAll enc Try.prog W 0 (fun _ => true) true Try.f4.params.toList args.toList ds p := hA0
  rw [Try.params4] at hA hval hsz
  obtain ⟨v0, vs0, d0, ds0, p0, q0, hargs, rfl, rfl, h0, r0⟩ := trodAll_cons hA
  obtain ⟨v1, vs1, d1, ds1, p1, q1, rfl, rfl, rfl, h1, r1⟩ := trodAll_cons r0
  obtain ⟨v2, vs2, d2, ds2, p2, q2, rfl, rfl, rfl, h2, r2⟩ := trodAll_cons r1
  obtain ⟨rfl, rfl, rfl⟩ := trodAll_nil r2
  obtain rfl : args = #[v0, v1, v2] := by cases args; simp_all
  obtain ⟨rfl, rfl⟩ := trodVars_none hV
  have hall := List.all_eq_true.1 hsz
  obtain ⟨x0, rfl, rfl, rfl, i0⟩ := open_string Try.underlying9 (hval 0 9 v0 rfl rfl) h0
  have hq0 := sized_string hsz (j := 0) (t := 9) rfl rfl
  have hz0 : x0.size ≤ 140737488351232 := by
    have e : x0.data.toList.length = x0.size := by rw [Array.length_toList]; rfl
    rw [e] at hq0
    simp only [reachBytes] at hq0
    omega
  obtain ⟨x1, rfl, rfl, rfl, i1⟩ := open_int Try.underlying3 (hval 1 3 v1 rfl rfl) h1
  have ib1 := bounds_i64 i1
  obtain ⟨x2, rfl, rfl, rfl, i2⟩ := open_int Try.underlying3 (hval 2 3 v2 rfl rfl) h2
  have ib2 := bounds_i64 i2
  clear hA0 hval0
  refine (walk x0 hz0 x1 ib1.1 ib1.2 x2 ib2.1 ib2.2 W).mono fun e W' ⟨he, bel⟩ => ?_
  subst he
  exact ⟨_, rfl, _, _, _, [], _, [], hW', trodAll_mk1 (shut_bool Try.underlying4 _), (trodAll_cons_mk (shut_string Try.underlying9 i0) (trodAll_cons_mk (shut_int Try.underlying3 i1) (trodAll_cons_mk (shut_int Try.underlying3 i2) trodAll_mk0))), rfl, bel.frame _, fun h => by cases h⟩

theorem over : Rows.riceDecodesRow.holds Try.pinned (OpenSpec.ofChange Rows.riceDecodesSpec) :=
  OpenClaim.holds_of_wide 4 Try.f4 rfl rfl rfl rfl rfl rfl rfl ⟨rfl, rfl, rfl, rfl, rfl⟩ rfl rfl rfl rfl rfl (by kernel_rfl) Try.func4 (by kernel_rfl)
    (of_decide_eq_true (by kernel_rfl)) (by unfold Func.isWrapper; first | (rw [if_pos (by decide +kernel)]; kernel_rfl) | (rw [if_neg (by decide +kernel)]; exact ⟨rfl, rfl⟩))
    (fun os started H enc _ => lifted os started H enc)

end Go.Proofs.Ytdlakbgcflekkaa.riceDecodes
namespace Go.Proofs.Ytdlakbgcflekkaa
theorem riceDecodes_holds : Rows.RiceDecodesSaid := riceDecodes.over
#print axioms riceDecodes_holds
end Go.Proofs.Ytdlakbgcflekkaa
