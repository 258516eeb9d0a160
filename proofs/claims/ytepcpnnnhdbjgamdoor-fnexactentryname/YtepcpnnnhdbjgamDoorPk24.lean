/- Texts in one: EfE. -/
import Derived.Test.YtepcpnnnhdbjgamDoorPk13
import Derived.Test.YtepcpnnnhdbjgamDoorPk21
import Derived.Test.YtepcpnnnhdbjgamDoorPk19
/- Chapter 5, the landed code: names. -/
namespace Go.Proofs.YtepcpnnnhdbjgamDoor.Ent
open Go.RowKit Go.Proofs.YtepcpnnnhdbjgamDoor.Mem Go.Proofs.YtepcpnnnhdbjgamDoor.Laws Go.Proofs.YtepcpnnnhdbjgamDoor.Bytes Go.Proofs.YtepcpnnnhdbjgamDoor.Sha Go.Proofs.YtepcpnnnhdbjgamDoor.Ver Go.Proofs.YtepcpnnnhdbjgamDoor.Mod
set_option linter.unusedVariables false
set_option linter.unusedSimpArgs false

set_option maxRecDepth 1000000 in
set_option maxHeartbeats 1000000 in
theorem name_impl (w : World) (hG : Glob w) (n : Nd) (hp : n.path.size ≤ 1000000000) (hq : n.pre.size ≤ 1000000000) :
    Calls Tryd.prog 13 #[.string n.path, .agg #[.int .i64 n.a, .int .i64 n.b, .int .i64 n.c, .string n.pre]] w fun e w' => e = .returned (.string (name5 n)) ∧ Below w.heap.size w w' := by
  have HD : Hid (name5 n = if n.ok = true then n.path ++ ⟨#[64]⟩ ++ Plain.txt (verText n.a n.b n.c n.pre) else ⟨#[]⟩) := rfl
  have q1 := fits_impl (w.alloc (.cells #[.int .i64 n.a, .int .i64 n.b, .int .i64 n.c, .string n.pre] 29)) n.path n.a n.b n.c n.pre (by omega) (by omega)
  have q2 : ∀ W, Below w.heap.size w W → _ := fun W hW => vtext_impl W n.a n.b n.c n.pre (by omega) (Glob.later hG hW)
  unfold Ver.ver at q1 q2
  have HR : Hid (Vr (w.alloc (.cells #[.int .i64 n.a, .int .i64 n.b, .int .i64 n.c, .string n.pre] 29)) w.heap.size n.a n.b n.c n.pre) := heap_alloc_new w _
  have HB : Hid (Below w.heap.size w (w.alloc (.cells #[.int .i64 n.a, .int .i64 n.b, .int .i64 n.c, .string n.pre] 29))) := (Below.refl _ _).alloc (Nat.le_refl _) _
  obtain ⟨ok, hok⟩ : ∃ ok, n.ok = ok := ⟨_, rfl⟩
  have hok' : fits4 n.path n.a n.b n.c n.pre = ok := hok
  rw [hok'] at q1
  rw [hok] at HD
  obtain ⟨t, ht⟩ : ∃ t, Plain.txt (verText n.a n.b n.c n.pre) = t := ⟨_, rfl⟩
  simp only [ht] at q2
  rw [ht] at HD
  have htz : t.size ≤ 2000000000 := by
    rw [← ht, txt_sizev]
    unfold verText vt
    split
    · have h6 : ∀ m, (digF 6 m).length ≤ 7 := fun m => (digF_len 6 m).2
      have := h6 n.a.toNat
      have := h6 n.b.toNat
      have := h6 n.c.toNat
      split <;> simp [sb_len] <;> omega
    · simp
  clear hok hok' ht
  go_enter Tryd.func13, Tryd.ntmps13
  go_wp2_with fail
  refine q1.mono ?_
  rintro e w1 ⟨rfl, b1⟩
  have hR := Vr.same HR.out b1
  have hB : Below w.heap.size w w1 := HB.out.trans (b1.mono HB.out.size)
  clear q1 HR HB b1
  cases ok
  · have HN : Hid (name5 n = ⟨#[]⟩) := HD.out
    go_wp2
    go_ret
    exact ⟨by rw [HN.out]; rfl, hB⟩
  · have HN : Hid (name5 n = n.path ++ ⟨#[64]⟩ ++ t) := HD.out
    obtain ⟨k0, k1, k2, k3⟩ := Vr.cells hR
    clear hR HD
    go_wp2_with fail
    refine (q2 _ hB).mono ?_
    rintro e w2 ⟨rfl, b2⟩
    have hB2 : Below w.heap.size w w2 := hB.trans (b2.mono hB.size)
    go_wp2
    go_ret
    exact ⟨by rw [HN.out]; rfl, hB2⟩

end Go.Proofs.YtepcpnnnhdbjgamDoor.Ent
