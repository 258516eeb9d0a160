/- Chapter 3, the landed code: a version that is read of a text, and whether it is one. -/
import Derived.Test.YtbpgdagmffbagabDoorImpM
namespace Go.Proofs.YtbpgdagmffbagabDoor.Ver
open Go.RowKit Go.Proofs.YtbpgdagmffbagabDoor.Mem Go.Proofs.YtbpgdagmffbagabDoor.Laws Go.Proofs.YtbpgdagmffbagabDoor.Bytes Go.Proofs.YtbpgdagmffbagabDoor.Sha
set_option linter.unusedVariables false
set_option linter.unusedSimpArgs false

def parseI (s : ByteArray) : (Int × Int × Int × ByteArray) × Bool := match readI s with
  | none => ((0, 0, 0, ⟨#[]⟩), false)
  | some q => (q, true)

theorem zeroV : (Tryd.prog.info? 25).map (·.zero) = some (some (.agg #[.int .i64 0, .int .i64 0, .int .i64 0, .string ⟨#[]⟩])) := by kernel_rfl
theorem ta_nil (w : World) : (Instr.typeAssert .nilIface 20 25 true).run Tryd.prog w = .ok (.tuple #[.agg #[.int .i64 0, .int .i64 0, .int .i64 0, .string ⟨#[]⟩], .bool false]) w := by
  obtain ⟨i, hi, hz⟩ := Option.map_eq_some_iff.1 zeroV
  simp [Instr.typeAssert, run_underlying Tryd.underlying25, zeroValue, typeInfo, hi, hz, go_sem]
theorem ta_ok (w : World) (v : Value) : (Instr.typeAssert (.iface 25 v) 20 25 true).run Tryd.prog w = .ok (.tuple #[v, .bool true]) w := by
  simp [Instr.typeAssert, run_underlying Tryd.underlying25, go_sem]

set_option maxRecDepth 1000000 in
set_option maxHeartbeats 1000000 in
theorem parse_impl (w : World) (s : ByteArray) (hs : s.size ≤ 1048576) :
    Calls Tryd.prog 9 #[.string s] w fun e w' => e = .returned (.tuple #[verQ (parseI s).1, .bool (parseI s).2]) ∧ Below w.heap.size w w' := by
  have HB : Hid (Below w.heap.size w (w.alloc (.cells (vc 0 0 0 ⟨#[]⟩) 25))) := (Below.refl _ _).alloc (Nat.le_refl _) _
  have HV : Hid (Vr (w.alloc (.cells (vc 0 0 0 ⟨#[]⟩) 25)) w.heap.size 0 0 0 ⟨#[]⟩) := heap_alloc_new w _
  have q := readv_impl (w.alloc (.cells (vc 0 0 0 ⟨#[]⟩) 25)) s hs
  cases hr : readI s with
  | none =>
    have HP : Hid (parseI s = ((0, 0, 0, ⟨#[]⟩), false)) := by show _ = _; unfold parseI; rw [hr]
    rw [hr] at q
    unfold ifaceQ at q
    clear hr
    go_enter Tryd.func9, Tryd.ntmps9
    go_wp2_with fail
    refine q.mono ?_
    rintro e w1 ⟨rfl, b1⟩
    have V1 : Vr (w1.alloc (.cells (vc 0 0 0 ⟨#[]⟩) 25)) w.heap.size 0 0 0 ⟨#[]⟩ := Vr.same (Vr.same HV.out b1) ((Below.refl _ _).alloc (Nat.le_refl _) _)
    have V2 : Vr (w1.alloc (.cells (vc 0 0 0 ⟨#[]⟩) 25)) w1.heap.size 0 0 0 ⟨#[]⟩ := heap_alloc_new w1 _
    have B1 : Below w.heap.size w w1 := HB.out.trans (b1.mono HB.out.size)
    have B2 : Below w.heap.size w (w1.alloc (.cells (vc 0 0 0 ⟨#[]⟩) 25)) := B1.alloc B1.size _
    have ht := ta_nil
    clear q b1 HB HV
    go_wp2_with (first | (refine wpList_load_row rfl 25 _ rfl w1.heap.size rfl 25 (vc 0 0 0 ⟨#[]⟩) (0, 0) _ V2 Tryd.underlying25 rfl (sizeV 0 0 0 ⟨#[]⟩) ?_) | (refine wpList_store_row rfl 25 _ _ rfl w.heap.size (vc 0 0 0 ⟨#[]⟩) rfl rfl 25 (vc 0 0 0 ⟨#[]⟩) V1 (sizeV 0 0 0 ⟨#[]⟩) rfl (oneV 0 0 0 ⟨#[]⟩) ?_))
    exact bodyPost_ret (results_row_tmp rfl _ _ w.heap.size 25 (vc 0 0 0 ⟨#[]⟩) (0, 0) _ rfl (Vr.row V1 0 0 0 ⟨#[]⟩) Tryd.underlying25 rfl (sizeV 0 0 0 ⟨#[]⟩)) rfl ⟨by rw [HP.out]; rfl, below_setRow B2 (by omega) _⟩
  | some v =>
    obtain ⟨a, b, c, p⟩ := v
    have HP : Hid (parseI s = ((a, b, c, p), true)) := by show _ = _; unfold parseI; rw [hr]
    rw [hr] at q
    unfold ifaceQ verQ ver at q
    clear hr
    go_enter Tryd.func9, Tryd.ntmps9
    go_wp2_with fail
    refine q.mono ?_
    rintro e w1 ⟨rfl, b1⟩
    have V1 : Vr (w1.alloc (.cells (vc a b c p) 25)) w.heap.size 0 0 0 ⟨#[]⟩ := Vr.same (Vr.same HV.out b1) ((Below.refl _ _).alloc (Nat.le_refl _) _)
    have V2 : Vr (w1.alloc (.cells (vc a b c p) 25)) w1.heap.size a b c p := heap_alloc_new w1 _
    have B1 : Below w.heap.size w w1 := HB.out.trans (b1.mono HB.out.size)
    have B2 : Below w.heap.size w (w1.alloc (.cells (vc a b c p) 25)) := B1.alloc B1.size _
    have ht := fun w => ta_ok w (.agg #[.int .i64 a, .int .i64 b, .int .i64 c, .string p])
    clear q b1 HB HV
    go_wp2_with (first | (refine wpList_load_row rfl 25 _ rfl w1.heap.size rfl 25 (vc a b c p) (0, 0) _ V2 Tryd.underlying25 rfl (sizeV a b c p) ?_) | (refine wpList_store_row rfl 25 _ _ rfl w.heap.size (vc a b c p) rfl rfl 25 (vc 0 0 0 ⟨#[]⟩) V1 (sizeV a b c p) rfl (oneV a b c p) ?_))
    exact bodyPost_ret (results_row_tmp rfl _ _ w.heap.size 25 (vc a b c p) (0, 0) _ rfl (Vr.row V1 a b c p) Tryd.underlying25 rfl (sizeV a b c p)) rfl ⟨by rw [HP.out]; rfl, below_setRow B2 (by omega) _⟩

end Go.Proofs.YtbpgdagmffbagabDoor.Ver
