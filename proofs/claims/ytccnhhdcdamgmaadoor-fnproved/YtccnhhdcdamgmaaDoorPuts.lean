/- Contracts of PutNum, the program's and the specification's: both make, in new memory, the bytes that were there and the number's groups behind them. -/
import Derived.Test.YtccnhhdcdamgmaaDoorBytes
import Derived.Test.YtccnhhdcdamgmaaDoorPlain
import Derived.Test.YtccnhhdcdamgmaaDoorLaws
import Derived.Laws.CopyOwn
namespace Go.Proofs.YtccnhhdcdamgmaaDoor.Puts
open Go.RowKit Go.Proofs.YtccnhhdcdamgmaaDoor.Mem Go.Proofs.YtccnhhdcdamgmaaDoor.Plain Go.Proofs.YtccnhhdcdamgmaaDoor.Laws Go.Proofs.YtccnhhdcdamgmaaDoor.Bytes
set_option linter.unusedVariables false

/-- the bytes of a number as it is put -/
def num (n : Int) : List Int := enc (clampN n).toNat
theorem num_byt (n : Int) : Byt (num n) := enc_byte _
theorem num_len (n : Int) : 1 ≤ (num n).length ∧ (num n).length ≤ 5 := ⟨enc_len _, enc_len5 _ (by have := clampN_bd n; omega)⟩

theorem byte_small {m : Nat} (h : m < 128) (ys : List Int) : ys ++ [(m : Int)] = ys ++ enc m := by rw [enc_small h]

theorem one_byte (x : Int) : ∀ u ∈ [Value.int .u8 x], u.oneCell' = true := by
  intro u hu
  rw [List.mem_singleton] at hu
  rw [hu]
  rfl

theorem new_cell (w : World) (u : Value) (t : TypeId) : (w.alloc (.cells #[u] t)).cell? ⟨w.heap.size, 0, none⟩ = some u := by
  rw [cell_of_row _ w.heap.size 0 #[u] t (0, 0) (heap_alloc_new w _)]
  rfl

theorem Own.empty (w : World) (lo : Nat) (h : lo ≤ w.heap.size) : Own (w.alloc (.cells #[] 5)) lo (w.alloc (.cells #[] 5)).heap.size 5 (.slice (some ⟨w.heap.size, 0, none⟩) 0 0) (bs []) :=
  Own.of (World.ownsRow_lit w #[] 0 h (Nat.zero_le _) rfl)

/-- the bytes of texts, each behind its length -/
def tx (s : ByteArray) : List Int := num (s.size : Int) ++ sb s
def tot : List ByteArray → Nat
  | [] => 0
  | s :: r => s.size + tot r
def txs : List ByteArray → List Int
  | [] => []
  | s :: r => tx s ++ txs r
theorem tx_len (s : ByteArray) : (tx s).length ≤ s.size + 5 := by
  unfold tx; have := num_len (s.size : Int); rw [List.length_append, sb_len]; omega
theorem txs_len (l : List ByteArray) : (txs l).length ≤ 5 * l.length + tot l := by
  induction l with
  | nil => simp [txs, tot]
  | cons s r ih => have := tx_len s; simp only [txs, tot, List.length_append, List.length_cons]; omega
theorem tx_byt (s : ByteArray) : Byt (tx s) := (num_byt _).app (sb_byt _)

theorem Sl.oneStr (w : World) (s : ByteArray) (t : TypeId) : Sl (w.alloc (.cells #[.string s] t)) (.slice (some ⟨w.heap.size, 0, none⟩) 1 1) (ss [s]) := Sl.one w (.string s) t

theorem drop_str {l : List ByteArray} {k : Nat} {s : ByteArray} (h : l[k]? = some s) : l.drop k = s :: l.drop (k + 1) := by
  obtain ⟨hk, rfl⟩ := List.getElem?_eq_some_iff.1 h
  exact List.drop_eq_getElem_cons hk

end Go.Proofs.YtccnhhdcdamgmaaDoor.Puts
