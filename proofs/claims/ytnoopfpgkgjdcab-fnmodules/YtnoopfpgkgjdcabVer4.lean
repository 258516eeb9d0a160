/- Chapter 3, the specification's side: a number's text, a version's text. -/
import Derived.Test.YtnoopfpgkgjdcabVer3
import Derived.BigQuiet
import Derived.Deep.RegionHeld3
namespace Go.Proofs.Ytnoopfpgkgjdcab.Ver
open Go.RowKit Go.Proofs.Ytnoopfpgkgjdcab.Mem Go.Proofs.Ytnoopfpgkgjdcab.Laws Go.Proofs.Ytnoopfpgkgjdcab.Bytes Go.Proofs.Ytnoopfpgkgjdcab.Sha
set_option linter.unusedVariables false
set_option linter.unusedSimpArgs false

/-- a number's digits (at most f + 1 of them) -/
def digF : Nat → Nat → List Int
  | 0, n => [48 + (n : Int)]
  | f + 1, n => if n < 10 then [48 + (n : Int)] else digF f (n / 10) ++ [48 + ((n % 10 : Nat) : Int)]
theorem digF_byt (f : Nat) : ∀ n, n < 10 ^ (f + 1) → Byt (digF f n) := by
  induction f with
  | zero => intro n hn x hx; simp [digF] at hx; omega
  | succ f ih =>
    intro n hn
    unfold digF
    split
    · intro x hx; simp at hx; omega
    · refine (ih _ ?_).app (fun x hx => ?_)
      · rw [Nat.pow_succ] at hn; omega
      · rw [List.mem_singleton] at hx; omega
theorem digF_len (f : Nat) : ∀ n, 1 ≤ (digF f n).length ∧ (digF f n).length ≤ f + 1 := by
  induction f with
  | zero => intro n; simp [digF]
  | succ f ih =>
    intro n
    unfold digF
    split
    · simp
    · have := ih (n / 10); simp; omega
theorem txt_app (a b : List Int) : Plain.txt (a ++ b) = Plain.txt a ++ Plain.txt b := by
  apply ByteArray.ext
  rw [ByteArray.data_append]
  simp [Plain.txt, Plain.u8s]

theorem txt_sizev (l : List Int) : (Plain.txt l).size = l.length := by
  show (Plain.txt l).data.size = _
  simp [Plain.txt, Plain.u8s]

theorem conv_new (W : World) (x : Int) (h0 : 0 ≤ x) (h1 : x ≤ 255) : (convert 22 9 (.slice (some ⟨W.heap.size, 0, none⟩) 1 1)).run Try.prog (W.alloc (.cells #[.int .u8 x] 5)) = .ok (.string (Plain.txt [x])) (W.alloc (.cells #[.int .u8 x] 5)) :=
  conv_sl (zs := [x]) (Sl.one W (.int .u8 x) 5) (fun y hy => by rw [List.mem_singleton] at hy; omega)
theorem conv_late {W w5 : World} {x : Int} (h0 : 0 ≤ x) (h1 : x ≤ 255) (b5 : Below (W.alloc (.cells #[.int .u8 x] 5)).drew.heap.size (W.alloc (.cells #[.int .u8 x] 5)).drew w5) : (convert 22 9 (.slice (some ⟨W.heap.size, 0, none⟩) 1 1)).run Try.prog w5 = .ok (.string (Plain.txt [x])) w5 :=
  conv_sl (zs := [x]) (Sl.later (w := (W.alloc (.cells #[.int .u8 x] 5)).drew) (Sl.one W (.int .u8 x) 5) b5) (fun y hy => by rw [List.mem_singleton] at hy; omega)

theorem keepCell {W W' : World} {p : Addr} {x : Value} (h : W.cell? p = some x) (b : Below W.heap.size W W') : W'.cell? p = some x := by
  rw [b.cell (World.block_lt_of_cell? W p h)]; exact h
theorem txt_sbv (s : ByteArray) : Plain.txt (sb s) = s := by
  apply ByteArray.ext
  apply Array.ext'
  show Plain.u8s (sb s) = _
  exact u8s_sb s

/-- a version's text -/
def vt (a b c : Int) (p : ByteArray) : List Int := [118] ++ digF 6 a.toNat ++ [46] ++ digF 6 b.toNat ++ [46] ++ digF 6 c.toNat ++ (if p.size = 0 then [] else [45] ++ sb p)
def verText (a b c : Int) (p : ByteArray) : List Int := if okV a b c p = true then vt a b c p else []

theorem inM_nat {a : Int} (h : inM a = true) : ∃ n : Nat, a = (n : Int) ∧ n ≤ 1000000 := by
  unfold inM at h
  have := of_decide_eq_true h
  exact ⟨a.toNat, by omega, by omega⟩

end Go.Proofs.Ytnoopfpgkgjdcab.Ver
