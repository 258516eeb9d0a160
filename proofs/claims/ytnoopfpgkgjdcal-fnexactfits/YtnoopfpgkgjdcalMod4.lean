/- Chapter 4, the specification's side: a path's major number, what fits it, its base. -/
import Derived.Test.YtnoopfpgkgjdcalMod3
import Derived.Test.YtnoopfpgkgjdcalVer4
namespace Go.Proofs.Ytnoopfpgkgjdcal.Ver
open Go.RowKit Go.Proofs.Ytnoopfpgkgjdcal.Mem Go.Proofs.Ytnoopfpgkgjdcal.Laws Go.Proofs.Ytnoopfpgkgjdcal.Bytes Go.Proofs.Ytnoopfpgkgjdcal.Sha
set_option linter.unusedVariables false
set_option linter.unusedSimpArgs false

def fits4 (s : ByteArray) (a b c : Int) (p : ByteArray) : Bool :=
  decide (0 < major4 s) && okV a b c p && (decide (a = major4 s) || (decide (major4 s = 1) && decide (a = 0)))
def base4 (s : ByteArray) : ByteArray :=
  if path4 (sb s) = true then (if maj4 s = 0 then s else s.extract 0 (s.size - 2 - (digF 6 (maj4 s).toNat).length)) else ⟨#[]⟩

set_option maxRecDepth 1000000 in
set_option maxHeartbeats 1000000 in
theorem major_spec (w : World) (s : ByteArray) (hs : s.size ≤ 1000000000000) :
    Calls Try.prog 9 #[.string s] w fun e w' => e = .returned (.int .i64 (major4 s)) ∧ Below w.heap.size w w' := by
  have HM : Hid (major4 s = if path4 (sb s) = true then (if maj4 s = 0 then 1 else maj4 s) else 0) := rfl
  have q1 := path_spec w s hs
  have q2 : ∀ W, _ := fun W => maj_spec W s hs
  obtain ⟨ok, hok⟩ : ∃ b, path4 (sb s) = b := ⟨_, rfl⟩
  obtain ⟨n, hn⟩ : ∃ n, maj4 s = n := ⟨_, rfl⟩
  rw [hok, hn] at HM
  rw [hok] at q1
  simp only [hn] at q2
  clear hok hn
  go_enter Try.func9, Try.ntmps9
  go_wp2_with fail
  refine q1.mono ?_
  rintro e w1 ⟨rfl, b1⟩
  cases ok
  · have HN : Hid (major4 s = 0) := HM.out
    clear HM
    go_wp2
    go_ret
    exact ⟨by rw [HN.out]; rfl, b1⟩
  · replace HM : Hid (major4 s = if n = 0 then 1 else n) := HM.out
    go_wp2_with fail
    refine (q2 _).mono ?_
    rintro e w2 ⟨rfl, b2⟩
    have hb2 : Below w.heap.size w w2 := b1.trans (b2.mono b1.size)
    by_cases h0 : n = 0
    · have d0 : (n == 0) = true := by simpa using h0
      have HN : Hid (major4 s = 1) := by show _ = _; rw [HM.out, if_pos h0]
      clear HM
      go_wp2
      go_ret
      exact ⟨by rw [HN.out]; rfl, hb2⟩
    · have d0 : (n == 0) = false := by simpa using h0
      have HN : Hid (major4 s = n) := by show _ = _; rw [HM.out, if_neg h0]
      clear HM
      go_wp2
      go_ret
      exact ⟨by rw [HN.out]; rfl, hb2⟩

theorem major4_bd (s : ByteArray) : 0 ≤ major4 s ∧ major4 s ≤ 1000 := by
  unfold major4
  have := maj4_bd s
  split
  · split <;> omega
  · omega

set_option maxRecDepth 1000000 in
set_option maxHeartbeats 1000000 in
theorem base_spec (w : World) (s : ByteArray) (hs : s.size ≤ 1000000000000) (hl : maj4 s ≠ 0 → 2 + (digF 6 (maj4 s).toNat).length ≤ s.size) :
    Calls Try.prog 15 #[.string s] w fun e w' => e = .returned (.string (base4 s)) ∧ Below w.heap.size w w' := by
  have HM : Hid (base4 s = if path4 (sb s) = true then (if maj4 s = 0 then s else s.extract 0 (s.size - 2 - (digF 6 (maj4 s).toNat).length)) else ⟨#[]⟩) := rfl
  have q1 := path_spec w s hs
  have q2 : ∀ W, _ := fun W => maj_spec W s hs
  have hbd := maj4_bd s
  obtain ⟨ok, hok⟩ : ∃ b, path4 (sb s) = b := ⟨_, rfl⟩
  obtain ⟨n, hn⟩ : ∃ n, maj4 s = n := ⟨_, rfl⟩
  rw [hok, hn] at HM
  rw [hok] at q1
  simp only [hn] at q2
  rw [hn] at hbd hl
  clear hok hn
  go_enter Try.func15, Try.ntmps15
  go_wp2_with fail
  refine q1.mono ?_
  rintro e w1 ⟨rfl, b1⟩
  cases ok
  · have HN : Hid (base4 s = ⟨#[]⟩) := HM.out
    clear HM
    go_wp2
    go_ret
    exact ⟨by rw [HN.out]; rfl, b1⟩
  · replace HM : Hid (base4 s = if n = 0 then s else s.extract 0 (s.size - 2 - (digF 6 n.toNat).length)) := HM.out
    go_wp2_with fail
    refine (q2 _).mono ?_
    rintro e w2 ⟨rfl, b2⟩
    have hb2 : Below w.heap.size w w2 := b1.trans (b2.mono b1.size)
    by_cases h0 : n = 0
    · have d0 : (n == 0) = true := by simpa using h0
      have HN : Hid (base4 s = s) := by show _ = _; rw [HM.out, if_pos h0]
      clear HM
      go_wp2
      go_ret
      exact ⟨by rw [HN.out]; rfl, hb2⟩
    · have d0 : (n == 0) = false := by simpa using h0
      have HN : Hid (base4 s = s.extract 0 (s.size - 2 - (digF 6 n.toNat).length)) := by show _ = _; rw [HM.out, if_neg h0]
      have q3 := text_spec 6 w2 n.toNat (by omega) (by omega)
      rw [show ((n.toNat : Nat) : Int) = n by omega] at q3
      have hl2 := hl h0
      have hz := txt_sizev (digF 6 n.toNat)
      obtain ⟨L, hL⟩ : ∃ L, (digF 6 n.toNat).length = L := ⟨_, rfl⟩
      rw [hL] at hl2 hz HN
      obtain ⟨tx, htx⟩ : ∃ t, Plain.txt (digF 6 n.toNat) = t := ⟨_, rfl⟩
      rw [htx] at hz q3
      clear HM hL htx hl
      go_wp2_with fail
      refine q3.mono ?_
      rintro e w3 ⟨rfl, b3⟩
      have hb3 : Below w.heap.size w w3 := hb2.trans (b3.mono hb2.size)
      have e1 : ((s.size : Int) - 2 - (tx.size : Int)).toNat = s.size - 2 - L := by omega
      go_wp2
      go_ret
      exact ⟨by rw [HN.out]; rfl, hb3⟩

end Go.Proofs.Ytnoopfpgkgjdcal.Ver
