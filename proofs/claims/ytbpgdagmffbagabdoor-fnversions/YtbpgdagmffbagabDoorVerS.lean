/- Chapter 3: contracts in the words of the law on texts. -/
import Derived.Test.YtbpgdagmffbagabDoorVerR
import Derived.Test.YtbpgdagmffbagabDoorImpT
import Derived.Test.YtbpgdagmffbagabDoorOrdE
import Derived.Test.YtbpgdagmffbagabDoorDraw6
namespace Go.Proofs.YtbpgdagmffbagabDoor.Ver
open Go.RowKit Go.Proofs.YtbpgdagmffbagabDoor.Mem Go.Proofs.YtbpgdagmffbagabDoor.Laws Go.Proofs.YtbpgdagmffbagabDoor.Bytes Go.Proofs.YtbpgdagmffbagabDoor.Sha
set_option linter.unusedVariables false
set_option linter.unusedSimpArgs false

theorem vtI (W : World) (a b c : Int) (p t : ByteArray) (ht : Plain.txt (verText a b c p) = t) (hp : p.size ≤ 100) (hG : Glob W) :
    Calls Tryd.prog 6 #[.agg #[.int .i64 a, .int .i64 b, .int .i64 c, .string p]] W fun e w' => e = .returned (.string t) ∧ Below W.heap.size W w' := by
  rw [← ht]
  exact vtext_impl W a b c p (by omega) hG
theorem okI (W : World) (a b c : Int) (p : ByteArray) (r : Bool) (hr : okV a b c p = r) (hp : p.size ≤ 100) :
    Calls Tryd.prog 8 #[.agg #[.int .i64 a, .int .i64 b, .int .i64 c, .string p]] W fun e w' => e = .returned (.bool r) ∧ Below W.heap.size W w' := by
  rw [← hr]
  exact ok_impl W a b c p (by omega)
theorem okS (W : World) (a b c : Int) (p : ByteArray) (r : Bool) (hr : okV a b c p = r) (hp : p.size ≤ 100) :
    Calls Tryd.prog 7 #[.agg #[.int .i64 a, .int .i64 b, .int .i64 c, .string p]] W fun e w' => e = .returned (.bool r) ∧ Below W.heap.size W w' := by
  rw [← hr]
  exact ok_spec W a b c p (by omega)
theorem paI (W : World) (s : ByteArray) (a b c : Int) (p : ByteArray) (r : Bool) (h : parseV s = ((a, b, c, p), r)) (hs : s.size ≤ 100) :
    Calls Tryd.prog 9 #[.string s] W fun e w' => e = .returned (.tuple #[.agg #[.int .i64 a, .int .i64 b, .int .i64 c, .string p], .bool r]) ∧ Below W.heap.size W w' := by
  have q := parse_impl W s (by omega)
  rw [parse_same s, h] at q
  exact q
theorem paS (W : World) (s : ByteArray) (a b c : Int) (p : ByteArray) (r : Bool) (h : parseV s = ((a, b, c, p), r)) (hs : s.size ≤ 100) :
    Calls Tryd.prog 11 #[.string s] W fun e w' => e = .returned (.tuple #[.agg #[.int .i64 a, .int .i64 b, .int .i64 c, .string p], .bool r]) ∧ Below W.heap.size W w' := by
  have q := parse_spec W s (by omega)
  rw [h] at q
  exact q
theorem pre_small {a b c : Int} {p t : ByteArray} (hok : okV a b c p = true) (ht : Plain.txt (verText a b c p) = t) (hz : t.size ≤ 100) : p.size ≤ 100 := by
  rw [← ht, txt_sizev] at hz
  unfold verText at hz
  rw [if_pos hok] at hz
  unfold vt at hz
  by_cases h : p.size = 0
  · omega
  · rw [if_neg h] at hz
    have := sb_len p
    simp at hz
    omega

end Go.Proofs.YtbpgdagmffbagabDoor.Ver
