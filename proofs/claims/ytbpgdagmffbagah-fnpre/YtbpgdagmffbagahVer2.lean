/- Chapter 3, the specification's side: a text's parts; what stands behind a version; versions that are right. -/
import Derived.Test.YtbpgdagmffbagahVer1
namespace Go.Proofs.Ytbpgdagmffbagah.Ver
open Go.RowKit Go.Proofs.Ytbpgdagmffbagah.Mem Go.Proofs.Ytbpgdagmffbagah.Laws Go.Proofs.Ytbpgdagmffbagah.Bytes Go.Proofs.Ytbpgdagmffbagah.Sha
set_option linter.unusedVariables false
set_option linter.unusedSimpArgs false

theorem info9v : (Try.prog.info? 9).map (fun i => (i.zero, i.size, i.bytes)) = some (some (.string ⟨#[]⟩), 1, 16) := by kernel_rfl
theorem one_strv (s : ByteArray) : ∀ u ∈ [Value.string s], u.oneCell' = true := by
  intro u hu
  rw [List.mem_singleton] at hu
  rw [hu]
  rfl
theorem emptySv (w : World) (lo : Nat) (h : lo ≤ w.heap.size) : Own (w.alloc (.cells #[] 9)) lo (w.alloc (.cells #[] 9)).heap.size 9 (.slice (some ⟨w.heap.size, 0, none⟩) 0 0) (ss []) :=
  Own.of (World.ownsRow_lit w #[] 0 h (Nat.zero_le _) rfl)

/-- the parts of a text, with a sign between -/
def splitL (b : Int) : List Int → List Int → List (List Int)
  | cur, [] => [cur]
  | cur, c :: r => if c = b then cur :: splitL b [] r else splitL b (cur ++ [c]) r
def split (b : Int) (l : List Int) : List (List Int) := splitL b [] l
def splitT (b : Int) (s : ByteArray) : List ByteArray := (split b (sb s)).map Plain.txt

theorem splitL_len (b : Int) : ∀ (l cur : List Int), (splitL b cur l).length ≤ l.length + 1 := by
  intro l
  induction l with
  | nil => intro cur; simp [splitL]
  | cons c r ih =>
    intro cur
    unfold splitL
    split
    · have := ih []; simp only [List.length_cons]; omega
    · have := ih (cur ++ [c]); simp only [List.length_cons]; omega
theorem splitT_len (b : Int) (s : ByteArray) : (splitT b s).length ≤ s.size + 1 := by
  unfold splitT split
  rw [List.length_map]
  have := splitL_len b (sb s) []
  rw [sb_len] at this
  exact this

theorem u8s_sb (s : ByteArray) : Plain.u8s (sb s) = s.data.toList := by
  unfold Plain.u8s sb
  rw [List.map_map]
  conv => rhs; rw [← List.map_id s.data.toList]
  apply List.map_congr_left
  intro b _
  simp
theorem ext_txt (s : ByteArray) (f k : Nat) : s.extract f k = Plain.txt (((sb s).drop f).take (k - f)) := by
  apply ByteArray.ext
  apply Array.ext'
  rw [ByteArray.data_extract, Array.toList_extract]
  show _ = Plain.u8s (((sb s).drop f).take (k - f))
  have h : Plain.u8s (((sb s).drop f).take (k - f)) = ((Plain.u8s (sb s)).drop f).take (k - f) := by
    unfold Plain.u8s
    rw [← List.map_drop, ← List.map_take]
  rw [h, u8s_sb]

theorem cur_snoc {l : List Int} {f k : Nat} {c : Int} (hf : f ≤ k) (hc : l[k]? = some c) : (l.drop f).take (k + 1 - f) = (l.drop f).take (k - f) ++ [c] := by
  rw [show k + 1 - f = (k - f) + 1 by omega]
  refine take_snoc ?_
  rw [List.getElem?_drop, show f + (k - f) = k by omega]
  exact hc
theorem drop_consI {l : List Int} {k : Nat} {c : Int} (hc : l[k]? = some c) : l.drop k = c :: l.drop (k + 1) := by
  obtain ⟨hk, rfl⟩ := List.getElem?_eq_some_iff.1 hc
  rw [List.drop_eq_getElem_cons hk]

end Go.Proofs.Ytbpgdagmffbagah.Ver
