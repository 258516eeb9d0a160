/- Contracts of the laws' own small functions on lists of texts: a copy, a comparison, how much there is, marks laid, marks looked for. -/
import Derived.Test.YtanidhhcedinoaaRows
import Derived.Test.YtanidhhcedinoaaMem
import Derived.Test.YtanidhhcedinoaaBytes
import Derived.Test.YtanidhhcedinoaaPuts
import Derived.WalkKit
import Derived.WalkSpells
import Derived.WalkLawsBesides
import Derived.Deep.QuietTactic
import Derived.BigQuiet
import Derived.Deep.RegionWith
namespace Go.Proofs.Ytanidhhcedinoaa.Strs
open Go.RowKit Go.Proofs.Ytanidhhcedinoaa.Mem Go.Proofs.Ytanidhhcedinoaa.Bytes
set_option linter.unusedVariables false

theorem info9 : (Try.prog.info? 9).map (fun i => (i.zero, i.size, i.bytes)) = some (some (.string ⟨#[]⟩), 1, 16) := by kernel_rfl

theorem tot_take (l : List ByteArray) (k : Nat) (s : ByteArray) (h : l[k]? = some s) : Puts.tot (l.take (k + 1)) = Puts.tot (l.take k) + s.size := by
  induction l generalizing k with
  | nil => simp at h
  | cons x r ih =>
    cases k with
    | zero => simp at h; subst h; simp [Puts.tot]
    | succ k => simp at h; simp only [List.take_succ_cons, Puts.tot]; rw [ih k h]; omega

/-- the digits of a number, at most f of them more -/
def digF : Nat → Nat → List UInt8
  | 0, _ => []
  | f + 1, n => if n = 0 then [] else digF f (n / 10) ++ [UInt8.ofNat (48 + n % 10)]
def dig (n : Nat) : List UInt8 := digF n n
theorem digF_any (f : Nat) : ∀ g n, n ≤ f → n ≤ g → digF f n = digF g n := by
  induction f with
  | zero =>
    intro g n h1 h2
    obtain rfl : n = 0 := by omega
    cases g with
    | zero => rfl
    | succ g => rw [digF, digF, if_pos rfl]
  | succ f ih =>
    intro g n h1 h2
    cases g with
    | zero =>
      obtain rfl : n = 0 := by omega
      rw [digF, digF, if_pos rfl]
    | succ g =>
      rw [digF, digF]
      split
      · rfl
      · rw [ih g (n / 10) (by omega) (by omega)]
theorem dig_zero : dig 0 = [] := rfl
theorem dig_step {n : Nat} (h : ¬ n = 0) : dig n = dig (n / 10) ++ [UInt8.ofNat (48 + n % 10)] := by
  unfold dig
  obtain ⟨m, rfl⟩ : ∃ m, n = m + 1 := ⟨n - 1, by omega⟩
  rw [digF, if_neg h, digF_any m ((m + 1) / 10) ((m + 1) / 10) (by omega) (by omega)]
/-- the text of a mark -/
def mt (n : Nat) : ByteArray := ⟨(109 :: dig n).toArray⟩

theorem conv_byte (w : World) (x : Int) (hx : 0 ≤ x ∧ x ≤ 255) : ∀ (u : Int), u = x → (convert 22 9 (.slice (some ⟨w.heap.size, 0, none⟩) 1 1)).run Try.prog (w.alloc (.cells #[.int .u8 u] 5)) = .ok (.string ⟨#[UInt8.ofNat x.toNat]⟩) (w.alloc (.cells #[.int .u8 u] 5)) := by
  intro u hu
  subst hu
  refine run_convert_bytes_back (P := Try.prog) _ 22 9 5 ⟨w.heap.size, 0, none⟩ 1 [UInt8.ofNat u.toNat] Try.underlying22 Try.underlying5 Try.underlying9 (fun j hj => ?_)
  obtain rfl : j = 0 := by simp at hj; omega
  rw [Addr.add_lit, cell_of_row _ w.heap.size 0 #[.int .u8 u] 5 (0, 0) (heap_alloc_new w _)]
  simp only [List.getElem_cons_zero]
  rw [UInt8.toNat_ofNat', show ((u.toNat % 2 ^ 8 : Nat) : Int) = u by omega]
  rfl

theorem ba_cons (c : UInt8) (d : List UInt8) : (⟨#[c]⟩ : ByteArray) ++ ⟨d.toArray⟩ = ⟨(c :: d).toArray⟩ := by
  apply ByteArray.ext
  rw [ByteArray.data_append]
  simp

theorem ofNat48 (x : Nat) : (48 : UInt8) + UInt8.ofNat x = UInt8.ofNat (48 + x) := by
  rw [UInt8.ofNat_add]
  rfl

/-- marks from k on, as texts -/
def mts (k n : Nat) : List ByteArray := (List.range n).map fun i => mt (k + i)
theorem mts_len (k n : Nat) : (mts k n).length = n := by simp [mts]
theorem mts_get (k n j : Nat) (h : j < n) : (mts k n)[j]? = some (mt (k + j)) := by simp [mts, h]

end Go.Proofs.Ytanidhhcedinoaa.Strs
