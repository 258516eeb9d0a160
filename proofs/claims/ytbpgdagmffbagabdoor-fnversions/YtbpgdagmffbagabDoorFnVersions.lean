/- For every input the law 'FnVersions' returns true and leaves its arguments as they were: proved of the card: three tables of the library stand when the call begins as the program's text lays them (tied by the given text), and no other condition. -/
import Derived.Test.YtbpgdagmffbagabDoorRows
import Derived.Test.YtbpgdagmffbagabDoorCards
import Derived.Test.YtbpgdagmffbagabDoorTie
import Derived.WalkKit
import Derived.LaidMore
import Derived.Stop.Joined
import Derived.OpenVars
import Derived.Test.YtbpgdagmffbagabDoorBytes
import Derived.Test.YtbpgdagmffbagabDoorVerS
import Derived.Test.YtbpgdagmffbagabDoorVerG
import Derived.Test.YtbpgdagmffbagabDoorRowSl
import Derived.ProofKit
import Derived.OpenShut
import Derived.ShutString
import Derived.ChangeOld
import Derived.Below
import Derived.SliceStrings
namespace Go.Proofs.YtbpgdagmffbagabDoor.fnVersions
open Go.ChangeShapes Go.WideShapes Go.ChangeAt Go.RowKit
open Go.ChangeMaps (open_string shut_string)
set_option linter.unusedVariables false

theorem own : ownKnob Tryd.prog.godebug = none := by kernel_rfl
theorem laidOut : laidOutB Tryd.prog = true := by kernel_rfl

set_option maxRecDepth 1000000 in
set_option maxHeartbeats 4000000 in
theorem walk (w : World) (hG : Ver.Glob w) (v0 : Value) (xs0 : List Int) (h0 : Mem.Sl w v0 (Mem.bs xs0)) (y0 : Mem.Byt xs0) (m0 : xs0.length ≤ maxLen) :
    Calls Tryd.prog 3 #[v0] w fun e w' => e = .returned (.bool true) ∧ Below w.heap.size w w' := by
  unfold maxLen at m0
  by_cases hbig : 1048576 < xs0.length
  · obtain ⟨ao, cap, rfl, _, _, _⟩ := h0
    rw [Mem.bs_len]
    go_enter Tryd.func3, Tryd.ntmps3
    go_wp2_with (go_at_call 4; refine (Draw.big_yes _ _ _ _ hbig).mono ?_; rintro e w1 ⟨rfl, rfl⟩)
    go_ret
    exact ⟨rfl, Below.refl _ _⟩
  have q1 := Ver.dvt_any w v0 xs0 h0 y0 (by omega)
  have HS0 : Hid (Mem.Sl w v0 (Mem.bs xs0)) := h0
  have qd : ∀ W, Below w.heap.size w W → _ := fun W hb => Ver.dpv_any W v0 xs0 (h0.later hb) y0 (by omega)
  have hG0 : Hid (Ver.Glob w) := hG
  clear hG
  obtain ⟨ao, cap, rfl, _, _, _⟩ := h0
  rw [Mem.bs_len] at q1 qd ⊢
  clear HS0
  go_enter Tryd.func3, Tryd.ntmps3
  go_wp2_with fail
  refine (Draw.big_no _ _ _ _ hbig).mono ?_
  rintro e w0 ⟨rfl, rfl⟩
  go_wp2_with fail
  refine q1.mono ?_
  rintro e W1 ⟨a, b, c, p, rfl, A1, B0⟩
  have hpz : p.size ≤ 100 := by have := A1.2.2.2; omega
  have hsz := Ver.verText_size (a := a) (b := b) (c := c) A1.2.2.2
  have B : Below w.heap.size w (W1.alloc (.cells #[.int .i64 a, .int .i64 b, .int .i64 c, .string p] 25)) := B0.alloc B0.size _
  have R0 : Ver.Vr (W1.alloc (.cells #[.int .i64 a, .int .i64 b, .int .i64 c, .string p] 25)) W1.heap.size a b c p := heap_alloc_new W1 _
  clear q1 B0 A1
  obtain ⟨k0a, k0b, k0c, k0d⟩ := Ver.Vr.cells R0
  have HR0 : Hid (Ver.Vr (W1.alloc (.cells #[.int .i64 a, .int .i64 b, .int .i64 c, .string p] 25)) (W1.heap.size) a b c p) := R0
  clear R0
  obtain ⟨s, hs⟩ : ∃ s, Plain.txt (Ver.verText a b c p) = s := ⟨_, rfl⟩
  obtain ⟨ok, hok⟩ : ∃ s, Ver.okV a b c p = s := ⟨_, rfl⟩
  have Hs : Hid (Plain.txt (Ver.verText a b c p) = s) := hs
  have Hok : Hid (Ver.okV a b c p = ok) := hok
  rw [hs] at hsz
  clear hs hok
  go_wp2_with fail
  refine (Ver.vtI _ a b c p s Hs.out hpz (Ver.Glob.later hG0.out B)).mono ?_
  rintro e W2 ⟨rfl, bw⟩
  have R0 := Ver.Vr.same HR0.out bw
  have B' : Below w.heap.size w W2 := B.trans (bw.mono B.size)
  clear B bw HR0 k0a k0b k0c k0d
  have B := B'
  clear B'
  obtain ⟨k0a, k0b, k0c, k0d⟩ := Ver.Vr.cells R0
  have HR0 : Hid (Ver.Vr W2 (W1.heap.size) a b c p) := R0
  clear R0
  go_wp2_with fail
  refine (Ver.okS _ a b c p ok Hok.out hpz).mono ?_
  rintro e W3 ⟨rfl, bw⟩
  have R0 := Ver.Vr.same HR0.out bw
  have B' : Below w.heap.size w W3 := B.trans (bw.mono B.size)
  clear B bw HR0 k0a k0b k0c k0d
  have B := B'
  clear B'
  obtain ⟨k0a, k0b, k0c, k0d⟩ := Ver.Vr.cells R0
  have HR0 : Hid (Ver.Vr W3 (W1.heap.size) a b c p) := R0
  clear R0
  cases ok
  · have hse : s.toList.isEmpty = true := by
      rw [Ver.toList_empty, ← Hs.out, Ver.txt_sizev]
      unfold Ver.verText
      rw [Hok.out]
      rfl
    go_wp2_with fail
    refine (Ver.okI _ a b c p false Hok.out hpz).mono ?_
    rintro e W4 ⟨rfl, bw⟩
    have R0 := Ver.Vr.same HR0.out bw
    have B' : Below w.heap.size w W4 := B.trans (bw.mono B.size)
    clear B bw HR0 k0a k0b k0c k0d
    have B := B'
    clear B'
    obtain ⟨k0a, k0b, k0c, k0d⟩ := Ver.Vr.cells R0
    have HR0 : Hid (Ver.Vr W4 (W1.heap.size) a b c p) := R0
    clear R0
    go_wp2_with fail
    go_ret
    exact ⟨rfl, B⟩
  · have hps : Hid (Ver.parseV s = ((a, b, c, p), true)) := by
      show _ = _
      have h := Ver.parse_text Hok.out
      have h2 := Hs.out
      unfold Ver.verText at h2
      rw [if_pos Hok.out] at h2
      rw [h2] at h
      exact h
    have hgd := Ver.grdV
    have hsv : Ver.sameV a b c p a b c p = true := (Ver.sameV_iff _ _ _ _ _ _ _ _).2 ⟨rfl, rfl, rfl, rfl⟩
    have hq := fun W => Ver.eqlV W a b c p a b c p
    rw [hsv] at hq
    clear hsv
    go_wp2_with fail
    refine (Ver.paI _ s a b c p true hps.out hsz).mono ?_
    rintro e W4 ⟨rfl, bw⟩
    have R0 : Ver.Vr (W4.alloc (.cells #[.int .i64 a, .int .i64 b, .int .i64 c, .string p] 25)) (W1.heap.size) a b c p := Ver.Vr.same (Ver.Vr.same HR0.out bw) ((Below.refl _ _).alloc (Nat.le_refl _) _)
    have R1 : Ver.Vr (W4.alloc (.cells #[.int .i64 a, .int .i64 b, .int .i64 c, .string p] 25)) W4.heap.size a b c p := heap_alloc_new W4 _
    have B' : Below w.heap.size w W4 := B.trans (bw.mono B.size)
    have B'' : Below w.heap.size w (W4.alloc (.cells #[.int .i64 a, .int .i64 b, .int .i64 c, .string p] 25)) := B'.alloc B'.size _
    clear B B' bw HR0 k0a k0b k0c k0d
    have B := B''
    clear B''
    obtain ⟨k0a, k0b, k0c, k0d⟩ := Ver.Vr.cells R0
    obtain ⟨k1a, k1b, k1c, k1d⟩ := Ver.Vr.cells R1
    have HR0 : Hid (Ver.Vr (W4.alloc (.cells #[.int .i64 a, .int .i64 b, .int .i64 c, .string p] 25)) (W1.heap.size) a b c p) := R0
    have HR1 : Hid (Ver.Vr (W4.alloc (.cells #[.int .i64 a, .int .i64 b, .int .i64 c, .string p] 25)) (W4.heap.size) a b c p) := R1
    clear R0 R1
    go_wp2_with fail
    refine (qd _ B).mono ?_
    rintro e W5 ⟨t, rfl, htz, bw⟩
    have R0 := Ver.Vr.same HR0.out bw
    have R1 := Ver.Vr.same HR1.out bw
    have B' : Below w.heap.size w W5 := B.trans (bw.mono B.size)
    clear B bw qd HR0 HR1 k0a k0b k0c k0d k1a k1b k1c k1d
    have B := B'
    clear B'
    obtain ⟨k0a, k0b, k0c, k0d⟩ := Ver.Vr.cells R0
    obtain ⟨k1a, k1b, k1c, k1d⟩ := Ver.Vr.cells R1
    have HR0 : Hid (Ver.Vr W5 (W1.heap.size) a b c p) := R0
    have HR1 : Hid (Ver.Vr W5 (W4.heap.size) a b c p) := R1
    clear R0 R1
    obtain ⟨x, y, z, q, r, hr⟩ : ∃ x y z q r, Ver.parseV t = ((x, y, z, q), r) := ⟨_, _, _, _, _, rfl⟩
    have Hr : Hid (Ver.parseV t = ((x, y, z, q), r)) := hr
    clear hr
    go_wp2_with fail
    refine (Ver.paI _ t x y z q r Hr.out htz).mono ?_
    rintro e W6 ⟨rfl, bw⟩
    have R0 : Ver.Vr (W6.alloc (.cells #[.int .i64 x, .int .i64 y, .int .i64 z, .string q] 25)) (W1.heap.size) a b c p := Ver.Vr.same (Ver.Vr.same HR0.out bw) ((Below.refl _ _).alloc (Nat.le_refl _) _)
    have R1 : Ver.Vr (W6.alloc (.cells #[.int .i64 x, .int .i64 y, .int .i64 z, .string q] 25)) (W4.heap.size) a b c p := Ver.Vr.same (Ver.Vr.same HR1.out bw) ((Below.refl _ _).alloc (Nat.le_refl _) _)
    have R2 : Ver.Vr (W6.alloc (.cells #[.int .i64 x, .int .i64 y, .int .i64 z, .string q] 25)) W6.heap.size x y z q := heap_alloc_new W6 _
    have B' : Below w.heap.size w W6 := B.trans (bw.mono B.size)
    have B'' : Below w.heap.size w (W6.alloc (.cells #[.int .i64 x, .int .i64 y, .int .i64 z, .string q] 25)) := B'.alloc B'.size _
    clear B B' bw HR0 HR1 k0a k0b k0c k0d k1a k1b k1c k1d
    have B := B''
    clear B''
    obtain ⟨k0a, k0b, k0c, k0d⟩ := Ver.Vr.cells R0
    obtain ⟨k1a, k1b, k1c, k1d⟩ := Ver.Vr.cells R1
    obtain ⟨k2a, k2b, k2c, k2d⟩ := Ver.Vr.cells R2
    have HR0 : Hid (Ver.Vr (W6.alloc (.cells #[.int .i64 x, .int .i64 y, .int .i64 z, .string q] 25)) (W1.heap.size) a b c p) := R0
    have HR1 : Hid (Ver.Vr (W6.alloc (.cells #[.int .i64 x, .int .i64 y, .int .i64 z, .string q] 25)) (W4.heap.size) a b c p) := R1
    have HR2 : Hid (Ver.Vr (W6.alloc (.cells #[.int .i64 x, .int .i64 y, .int .i64 z, .string q] 25)) (W6.heap.size) x y z q) := R2
    clear R0 R1 R2
    go_wp2_with fail
    refine (Ver.paS _ t x y z q r Hr.out htz).mono ?_
    rintro e W7 ⟨rfl, bw⟩
    have R0 : Ver.Vr (W7.alloc (.cells #[.int .i64 x, .int .i64 y, .int .i64 z, .string q] 25)) (W1.heap.size) a b c p := Ver.Vr.same (Ver.Vr.same HR0.out bw) ((Below.refl _ _).alloc (Nat.le_refl _) _)
    have R1 : Ver.Vr (W7.alloc (.cells #[.int .i64 x, .int .i64 y, .int .i64 z, .string q] 25)) (W4.heap.size) a b c p := Ver.Vr.same (Ver.Vr.same HR1.out bw) ((Below.refl _ _).alloc (Nat.le_refl _) _)
    have R2 : Ver.Vr (W7.alloc (.cells #[.int .i64 x, .int .i64 y, .int .i64 z, .string q] 25)) (W6.heap.size) x y z q := Ver.Vr.same (Ver.Vr.same HR2.out bw) ((Below.refl _ _).alloc (Nat.le_refl _) _)
    have R3 : Ver.Vr (W7.alloc (.cells #[.int .i64 x, .int .i64 y, .int .i64 z, .string q] 25)) W7.heap.size x y z q := heap_alloc_new W7 _
    have B' : Below w.heap.size w W7 := B.trans (bw.mono B.size)
    have B'' : Below w.heap.size w (W7.alloc (.cells #[.int .i64 x, .int .i64 y, .int .i64 z, .string q] 25)) := B'.alloc B'.size _
    clear B B' bw HR0 HR1 HR2 k0a k0b k0c k0d k1a k1b k1c k1d k2a k2b k2c k2d
    have B := B''
    clear B''
    obtain ⟨k0a, k0b, k0c, k0d⟩ := Ver.Vr.cells R0
    obtain ⟨k1a, k1b, k1c, k1d⟩ := Ver.Vr.cells R1
    obtain ⟨k2a, k2b, k2c, k2d⟩ := Ver.Vr.cells R2
    obtain ⟨k3a, k3b, k3c, k3d⟩ := Ver.Vr.cells R3
    have HR0 : Hid (Ver.Vr (W7.alloc (.cells #[.int .i64 x, .int .i64 y, .int .i64 z, .string q] 25)) (W1.heap.size) a b c p) := R0
    have HR1 : Hid (Ver.Vr (W7.alloc (.cells #[.int .i64 x, .int .i64 y, .int .i64 z, .string q] 25)) (W4.heap.size) a b c p) := R1
    have HR2 : Hid (Ver.Vr (W7.alloc (.cells #[.int .i64 x, .int .i64 y, .int .i64 z, .string q] 25)) (W6.heap.size) x y z q) := R2
    have HR3 : Hid (Ver.Vr (W7.alloc (.cells #[.int .i64 x, .int .i64 y, .int .i64 z, .string q] 25)) (W7.heap.size) x y z q) := R3
    clear R0 R1 R2 R3
    cases r
    · go_wp2_with fail
      go_ret
      exact ⟨rfl, B⟩
    · have hb := Ver.parse_back Hr.out
      have hqz := Ver.pre_small hb.1 hb.2 htz
      have Hb : Hid _ := hb
      have ht2 : (t.toList == t.toList) = true := by simp
      clear hb
      go_wp2_with fail
      refine (Ver.vtI _ x y z q t Hb.out.2 hqz (Ver.Glob.later hG0.out B)).mono ?_
      rintro e W8 ⟨rfl, bw⟩
      have R0 := Ver.Vr.same HR0.out bw
      have R1 := Ver.Vr.same HR1.out bw
      have R2 := Ver.Vr.same HR2.out bw
      have R3 := Ver.Vr.same HR3.out bw
      have B' : Below w.heap.size w W8 := B.trans (bw.mono B.size)
      clear B bw HR0 HR1 HR2 HR3 k0a k0b k0c k0d k1a k1b k1c k1d k2a k2b k2c k2d k3a k3b k3c k3d
      have B := B'
      clear B'
      obtain ⟨k0a, k0b, k0c, k0d⟩ := Ver.Vr.cells R0
      obtain ⟨k1a, k1b, k1c, k1d⟩ := Ver.Vr.cells R1
      obtain ⟨k2a, k2b, k2c, k2d⟩ := Ver.Vr.cells R2
      obtain ⟨k3a, k3b, k3c, k3d⟩ := Ver.Vr.cells R3
      have HR0 : Hid (Ver.Vr W8 (W1.heap.size) a b c p) := R0
      have HR1 : Hid (Ver.Vr W8 (W4.heap.size) a b c p) := R1
      have HR2 : Hid (Ver.Vr W8 (W6.heap.size) x y z q) := R2
      have HR3 : Hid (Ver.Vr W8 (W7.heap.size) x y z q) := R3
      clear R0 R1 R2 R3
      go_wp2_with fail
      refine (Ver.okI _ x y z q true Hb.out.1 hqz).mono ?_
      rintro e W9 ⟨rfl, bw⟩
      have R0 := Ver.Vr.same HR0.out bw
      have R1 := Ver.Vr.same HR1.out bw
      have R2 := Ver.Vr.same HR2.out bw
      have R3 := Ver.Vr.same HR3.out bw
      have B' : Below w.heap.size w W9 := B.trans (bw.mono B.size)
      clear B bw HR0 HR1 HR2 HR3 k0a k0b k0c k0d k1a k1b k1c k1d k2a k2b k2c k2d k3a k3b k3c k3d
      have B := B'
      clear B'
      obtain ⟨k0a, k0b, k0c, k0d⟩ := Ver.Vr.cells R0
      obtain ⟨k1a, k1b, k1c, k1d⟩ := Ver.Vr.cells R1
      obtain ⟨k2a, k2b, k2c, k2d⟩ := Ver.Vr.cells R2
      obtain ⟨k3a, k3b, k3c, k3d⟩ := Ver.Vr.cells R3
      have HR0 : Hid (Ver.Vr W9 (W1.heap.size) a b c p) := R0
      have HR1 : Hid (Ver.Vr W9 (W4.heap.size) a b c p) := R1
      have HR2 : Hid (Ver.Vr W9 (W6.heap.size) x y z q) := R2
      have HR3 : Hid (Ver.Vr W9 (W7.heap.size) x y z q) := R3
      clear R0 R1 R2 R3
      go_wp2_with fail
      go_ret
      exact ⟨rfl, B⟩

theorem plainLaid : Rows.fnVersionsRow.laid = [("math/bits.deBruijn32tab", Rows.laid_math_bits_deBruijn32tab), ("math/bits.deBruijn64tab", Rows.laid_math_bits_deBruijn64tab), ("internal/strconv.uint64pow10", Rows.laid_internal_strconv_uint64pow10)] := rfl
theorem glob {W : World} (h : laidMetH Tryd.prog Rows.fnVersionsRow.laid W) : Ver.Glob W := by
  rw [MakeChecks.laidMetH_plain _ _ _ (by kernel_rfl), plainLaid] at h
  exact Ver.glob_of h

theorem door_met (os : Os) (args : Array Value) : laidMetH Tryd.prog Rows.fnVersionsRow.laid ((World.doorLaid Tryd.prog 400 os).forCall (fun _ _ => 0) ⟨#[], args, []⟩).memory :=
  laidMetH_of_parts3 (fuel := 8) (laidMet_of_run' 8 (by kernel_rfl) (by kernel_rfl)) (by kernel_rfl) (by kernel_rfl)

set_option maxRecDepth 100000 in
theorem lifted (os : Os) (started : os.Started) (H : Type) (enc : TypeId × Value → H) :
    ReturnsInHanded {} Tryd.checked os 3 .any (fun w args => (Rows.fnVersionsSpec.pre enc Tryd.prog Tryd.f3 Rows.fnVersionsRow.domain false w args ∧ laidMetH Tryd.prog Rows.fnVersionsRow.laid w) ∧ sizedMet enc Tryd.prog Tryd.f3 (OpenSpec.ofChange Rows.fnVersionsSpec) false w args) (Rows.fnVersionsSpec.post enc Tryd.prog Tryd.f3 false true false false) := by
  refine returnsInHanded_of_change_and (C := Tryd.checked) (X := fun w _ => laidMetH Tryd.prog Rows.fnVersionsRow.laid w) (fun _ _ _ hh h => h.of_heap hh) own started (by kernel_rfl) Tryd.func3
    (ChangeSpec.witness_shaped (enc := enc) (C := Tryd.checked) (os := os) (X := fun w _ => laidMetH Tryd.prog Rows.fnVersionsRow.laid w) false (World.doorLaid Tryd.prog 400 os) #[.slice none 0 0] 8 rfl (World.shaped_of_RefB (by kernel_rfl) (by kernel_rfl)) (by kernel_rfl) (by kernel_rfl) (by kernel_rfl) (door_met os _)) ?_
  intro W base args ds gs before hval0 hW hcnd _ hL _
  have hval : ∀ (j : Nat) t v, Tryd.f3.params[j]? = some t → args[j]? = some v → Value.okWide Tryd.prog W .any base t v := hval0
  have hW' := hW
  obtain ⟨p, q, hA0, hV, rfl, hfz, hnd⟩ := hW
  have hA : DataW.TrodAll enc Tryd.prog W 0 (fun _ => true) true Tryd.f3.params.toList args.toList ds p := hA0
  rw [Tryd.params3] at hA hval
  obtain ⟨v0, vs0, d0, ds0, p0, q0, hargs, rfl, rfl, h0, r0⟩ := trodAll_cons hA
  obtain ⟨rfl, rfl, rfl⟩ := trodAll_nil r0
  obtain rfl : args = #[v0] := by cases args; simp_all
  obtain ⟨rfl, rfl⟩ := trodVars_none hV
  obtain ⟨a0, len0, cap0, rfl⟩ := okWide_slice Tryd.underlying22 (hval 0 22 v0 rfl rfl)
  have k0 := h0
  have lt0 : ∀ x ∈ p0, x.block < W.heap.size := by obtain ⟨m, hm⟩ := k0; exact DataW.trod_lt m _ _ _ hm
  obtain ⟨xs0, t0, y0, m0⟩ : ∃ xs, Mem.Sl W (.slice a0 len0 cap0) (Mem.bs xs) ∧ Mem.Byt xs ∧ xs.length ≤ maxLen := by
    obtain ⟨fuel, hf⟩ := h0
    rcases open_ints Tryd.underlying22 Tryd.underlying5 (by kernel_rfl) hf with ⟨hcs, _⟩ | ⟨x, l, c, zs, hcs, _, hl, hm, hz, _, hcell, hwz⟩
    · simp [Value.cells] at hcs
      obtain ⟨rfl, rfl, rfl⟩ := hcs
      obtain ⟨xs, hs, _, hy⟩ := RowSl.row_sl (w := W) (a := none) (len := 0) (cap := 0) (zs := []) (.inl ⟨rfl, rfl, rfl, rfl⟩)
      exact ⟨xs, hs, hy, by have h0 : xs.length = 0 := (by omega); rw [h0]; exact Nat.zero_le _⟩
    · simp [Value.cells] at hcs
      obtain ⟨rfl, rfl, rfl⟩ := hcs
      obtain ⟨xs, hs, he, hy⟩ := RowSl.row_sl (w := W) (.inr ⟨_, rfl, hl, hm, by simpa using hz, hcell, hwz⟩)
      exact ⟨xs, hs, hy, by rw [← he]; exact Nat.le_trans hl hm⟩
  clear hA0 hval0
  refine (walk W (glob hL) _ xs0 t0 y0 m0).mono fun e W' ⟨he, bel⟩ => ?_
  subst he
  exact ⟨_, rfl, _, _, _, [], _, [], hW', trodAll_mk1 (shut_bool Tryd.underlying4 _), (trodAll_cons_mk (Below.trod laidOut (by kernel_rfl) (of_decide_eq_true (by kernel_rfl)) k0 bel lt0) trodAll_mk0), rfl, bel.frame _, fun h => by cases h⟩

theorem over : Rows.fnVersionsRow.holds Tryd.pinned (OpenSpec.ofChange Rows.fnVersionsSpec) :=
  OpenClaim.holds_of_wide 3 Tryd.f3 rfl rfl rfl rfl rfl rfl rfl ⟨rfl, rfl, rfl, rfl, rfl⟩ rfl rfl rfl rfl rfl (by kernel_rfl) Tryd.func3 (by kernel_rfl)
    (of_decide_eq_true (by kernel_rfl)) (by unfold Func.isWrapper; first | (rw [if_pos (by decide +kernel)]; kernel_rfl) | (rw [if_neg (by decide +kernel)]; exact ⟨rfl, rfl⟩))
    (fun os started H enc _ => lifted os started H enc)

theorem plain (f : FuncId) (fn : Func) (hf : Tryd.pinned.checked.prog.funcNamed "loop.example/g00233/laws.FnVersions" = some f) (hfn : Tryd.pinned.checked.prog.funcs[f]? = some fn) :
    true = Tryd.pinned.checked.prog.looks [] ∧ ∀ (j : Nat) t, fn.params[j]? = some t → Tryd.pinned.checked.prog.wantsStandIn t = false := by
  obtain rfl : f = 3 := Option.some.inj ((show Tryd.prog.funcNamed "loop.example/g00233/laws.FnVersions" = some 3 by kernel_rfl).symm.trans hf) |>.symm
  obtain rfl : fn = Tryd.f3 := (Option.some.inj (Tryd.func3.symm.trans hfn)).symm
  refine ⟨by kernel_rfl, fun j t ht => ?_⟩
  rw [Tryd.params3] at ht
  have hm : t ∈ [22] := by simpa using Array.mem_of_getElem? ht
  have hall : ([22].all fun u => !Tryd.prog.wantsStandIn u) = true := by kernel_rfl
  exact (show Tryd.prog.wantsStandIn t = false by simpa using List.all_eq_true.1 hall t hm)

end Go.Proofs.YtbpgdagmffbagabDoor.fnVersions
namespace Go.Proofs.YtbpgdagmffbagabDoor
theorem fnVersions_holds : Rows.FnVersionsCardSaid :=
  Claim7.holds_tied_plain_at .later [] _ _ _ _ fnVersions.over (fun _ h => by cases h) (by kernel_rfl) (fun _ h => by cases h) fnVersions_row_tie rfl ⟨rfl, rfl⟩ (by kernel_rfl) rfl fnVersions.plain (by kernel_rfl)
end Go.Proofs.YtbpgdagmffbagabDoor
