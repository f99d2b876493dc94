/- Own text: the document's Chunks, with what it owns. -/
import Derived.Test.YtaepgjheknkojaaGreatR6chunks
import Derived.Test.YtaepgjheknkojaaGreatG26x
namespace Go.Proofs.YtaepgjheknkojaaGreat
open Go.RowKit
set_option linter.unusedSimpArgs false
set_option linter.unusedVariables false
set_option maxRecDepth 20000 in
set_option maxHeartbeats 6400000 in
theorem r6chunks_own (s : ByteArray) (big : Bool) (w : World) (hs : s.size ≤ 140737488351232) :
    Calls Tryz.prog 18 #[.string s, .bool big] w fun e w' => ∃ ao cap, e = .returned (.tuple #[.slice ao (chunksN s big).1.length cap, .int .i64 (chunksN s big).2]) ∧ OwnC w.heap.size ao cap (chunksN s big).1 w' ∧ Below w.heap.size w w' := by
  have HG0 : Hid (Gc w noS [] w) := ⟨World.ownsRow_nil _ _ _ _, Below.refl _ _⟩
  have HC0 : Hid (chunksN s big = chunksR s big (s.size + 1) 0 []) := rfl
  obtain ⟨iK, hK0, hK1, hK2, hK3⟩ := info_parts5 infoK3
  have HIK : Hid (Tryz.prog.info? 55 = some iK ∧ iK.zero = some (.agg zeroK) ∧ iK.size = 3 ∧ iK.bytes = 40) := ⟨hK0, hK1, hK2, hK3⟩
  clear hK0 hK1 hK2 hK3
  generalize chunksN s big = R at *
  go_enter Tryz.func18, Tryz.ntmps18
  go_wp2_with fail
  go_loopw [6, 7] (fun g t wr => ∃ (k fuel : Nat) (acc : List Chk), k ≤ s.size ∧ s.size ≤ k + fuel ∧ acc.length ≤ 1024 ∧ t = .int .i64 (k : Int) ∧ R = chunksR s big (fuel + 1) k acc ∧ Gc w g acc wr) (fun _ t _ => s.size - (intOf t).toNat)
  case atStart => exact ⟨0, s.size, [], Nat.zero_le _, by omega, by simp, rfl, HC0.out, HG0.out⟩
  case round =>
    clear HC0 HG0
    obtain ⟨k, fuel, acc, hk, hf, hal, rfl, hR, hg⟩ := hrel
    obtain ⟨va, vc, rfl⟩ := hg.shape
    have HR : Hid (R = chunksR s big (fuel + 1) k acc) := hR
    have HG : Hid (Gc w (.slice va acc.length vc) acc wr) := hg
    clear hR hg
    by_cases hlt : k < s.size
    · have hes : (s.extract k s.size).size ≤ 140737488351232 := by rw [ext_size _ _ _ (by omega) (Nat.le_refl _)]; omega
      cases hb : oneB (s.extract k s.size) big (-1)
      · have ko := r6one_no (s.extract k s.size) big (-1) wr hes (by decide) (by decide) hb
        have HE : Hid (R = ([], 2)) := HR.out.trans (chunksR_bad s big fuel k acc hlt hb)
        clear HR hb
        go_wp2_with fail
        refine ko.mono ?_
        rintro e w2 ⟨rfl, hB⟩
        have HB : Hid (Below w.heap.size w w2) := HG.out.below.trans (hB.mono HG.out.below.size)
        clear ko hB
        go_wp2_with fail
        go_ret2
        exact ⟨none, 0, by rw [HE.out]; rfl, by rw [HE.out]; exact World.ownsRow_nil _ _ _ _, HB.out.alloc HB.out.size _⟩
      · have ko := r6one_yes (s.extract k s.size) big (-1) wr hes (by decide) (by decide) hb
        have hon := oneN_le (s.extract k s.size) big (-1) hb
        rw [ext_size _ _ _ (by omega) (Nat.le_refl _)] at hon
        by_cases h1024 : acc.length = 1024
        · have HE : Hid (R = ([], 5)) := HR.out.trans (chunksR_many s big fuel k acc hlt hb h1024)
          clear HR hb
          generalize oneC (s.extract k s.size) big (-1) = C at *
          generalize oneN (s.extract k s.size) big (-1) = M at *
          have h1i : (acc.length : Int) = 1024 := by omega
          go_wp2_with fail
          refine ko.mono ?_
          rintro e w2 ⟨rfl, hB⟩
          have HB : Hid (Below w.heap.size w w2) := HG.out.below.trans (hB.mono HG.out.below.size)
          clear ko hB
          go_wp2_with fail
          go_ret2
          exact ⟨none, 0, by rw [HE.out]; rfl, by rw [HE.out]; exact World.ownsRow_nil _ _ _ _, HB.out.alloc HB.out.size _⟩
        · have HE : Hid (R = chunksR s big fuel (k + oneN (s.extract k s.size) big (-1)) (acc ++ [oneC (s.extract k s.size) big (-1)])) := HR.out.trans (chunksR_step s big fuel k acc hlt hb h1024)
          clear HR hb
          generalize oneC (s.extract k s.size) big (-1) = C at *
          generalize oneN (s.extract k s.size) big (-1) = M at *
          obtain ⟨fuel', rfl⟩ : ∃ f', fuel = f' + 1 := ⟨fuel - 1, by omega⟩
          have h1b : ((acc.length : Int) == 1024) = false := by rw [beq_eq_false_iff_ne]; omega
          go_wp2_with fail
          refine ko.mono ?_
          rintro e w2 ⟨rfl, hB⟩
          have HG2 : Hid (Gc w (.slice va acc.length vc) acc ((w2.alloc (.cells (chkC C) 55)).alloc (.cells (chkC C) 55))) := ((HG.out.next hB).next ((Below.refl _ _).alloc (Nat.le_refl _) _)).next ((Below.refl _ _).alloc (Nat.le_refl _) _)
          have HNW : Hid (∀ j u, [Value.string C.id, .string C.body, .int .i64 C.pad][j]? = some u → ((w2.alloc (.cells (chkC C) 55)).alloc (.cells (chkC C) 55)).cell? ((⟨w2.heap.size + 1, 0, none⟩ : Addr).add j) = some u) := fun j u hj => by
            have := three_cells (w := w2.alloc (.cells (chkC C) 55)) (e := 55) j u hj
            rwa [show (w2.alloc (.cells (chkC C) 55)).heap.size = w2.heap.size + 1 from by simp] at this
          clear ko hB HG
          go_wp2_with (at_builtin; refine wpList_append_row _ rfl (.tmp 30) (.tmp 32) 25 rfl w.heap.size 55 iK (.agg zeroK) 3 40 Tryz.underlying25 HIK.out.1 HIK.out.2.1 HIK.out.2.2.1 HIK.out.2.2.2 rfl (by decide) (.slice va acc.length vc) acc.length _ rfl HG2.out.own ⟨w2.heap.size + 1, 0, none⟩ 1 1 [.string C.id, .string C.body, .int .i64 C.pad] rfl rfl HNW.out (by simp [Value.oneCell']) (by simp only [maxLen]; omega) (by omega) HG2.out.below.size ?_; intro v6 w6 ho6 hg6)
          have HG6 : Hid (Gc w v6 (acc ++ [C]) w6) := HG2.out.push ho6.out hg6.out
          go_roundw
          case rel => exact ⟨k + M, fuel', acc ++ [C], by omega, by omega, by rw [List.length_append]; simp; omega, by go_num, HE.out, HG6.out⟩
          case measure => simp [intOf]; omega
    · have HE : Hid (R = (acc, 0)) := HR.out.trans (chunksR_end s big fuel k acc hlt)
      clear HR
      have HAT : Hid (OwnC w.heap.size va vc acc wr) := HG.out.own
      have HBL : Hid (Below w.heap.size w wr) := HG.out.below
      clear HG
      go_wp2_with fail
      go_ret2
      exact ⟨va, vc, by rw [HE.out]; rfl, by rw [HE.out]; exact HAT.out, HBL.out⟩

end Go.Proofs.YtaepgjheknkojaaGreat
