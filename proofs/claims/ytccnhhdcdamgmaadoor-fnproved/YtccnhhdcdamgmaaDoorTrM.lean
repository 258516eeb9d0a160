/- Chapter 6: the laws FnPaths and FnGrown, over contracts of the landed functions. -/
import Derived.Test.YtccnhhdcdamgmaaDoorTrL
namespace Go.Proofs.YtccnhhdcdamgmaaDoor.Tr
open Go.RowKit Go.Proofs.YtccnhhdcdamgmaaDoor.Mem Go.Proofs.YtccnhhdcdamgmaaDoor.Laws Go.Proofs.YtccnhhdcdamgmaaDoor.Bytes Go.Proofs.YtccnhhdcdamgmaaDoor.Sha Go.Proofs.YtccnhhdcdamgmaaDoor.Draw
set_option linter.unusedVariables false
set_option linter.unusedSimpArgs false

theorem ssOne (l : List ByteArray) : ∀ u ∈ ss l, u.oneCell' = true := by
  intro u hu
  simp only [ss, List.mem_map] at hu
  obtain ⟨s, _, rfl⟩ := hu
  rfl
theorem path_sizes (l : List ByteArray) : ∀ i : Nat, ∀ t ∈ path l i, t.size ≤ 32 := by
  refine lenRec (P := fun l => ∀ i : Nat, ∀ t ∈ path l i, t.size ≤ 32) ?_ l
  intro l ih i
  by_cases h : 2 ≤ l.length
  · have hk := half_ok h
    have hp := half_pos h
    intro t ht
    by_cases hi : i < half l.length
    · rw [path_low h hi] at ht
      rcases List.mem_append.1 ht with ht | ht
      · exact ih (l.take (half l.length)) (take_lt h) i t ht
      · simp at ht; rw [ht, root_size]; exact Nat.le_refl _
    · rw [path_high h hi] at ht
      rcases List.mem_append.1 ht with ht | ht
      · exact ih (l.drop (half l.length)) (drop_lt h) (i - half l.length) t ht
      · simp at ht; rw [ht, root_size]; exact Nat.le_refl _
  · rw [path_no h]
    intro t ht
    cases ht
theorem grow_sizes (l : List ByteArray) : ∀ (n : Nat) (whole : Bool), ∀ t ∈ grow l n whole, t.size ≤ 32 := by
  refine lenRec (P := fun l => ∀ (n : Nat) (whole : Bool), ∀ t ∈ grow l n whole, t.size ≤ 32) ?_ l
  intro l ih n whole
  by_cases hn : n = l.length
  · subst hn
    rw [grow_all]
    intro t ht
    cases whole
    · simp at ht; rw [ht, root_size]; exact Nat.le_refl _
    · simp at ht
  · by_cases h : 2 ≤ l.length
    · have hk := half_ok h
      have hp := half_pos h
      intro t ht
      by_cases hi : n ≤ half l.length
      · rw [grow_low h hn hi] at ht
        rcases List.mem_append.1 ht with ht | ht
        · exact ih (l.take (half l.length)) (take_lt h) n whole t ht
        · simp at ht; rw [ht, root_size]; exact Nat.le_refl _
      · rw [grow_high h hn hi] at ht
        rcases List.mem_append.1 ht with ht | ht
        · exact ih (l.drop (half l.length)) (drop_lt h) (n - half l.length) false t ht
        · simp at ht; rw [ht, root_size]; exact Nat.le_refl _
    · rw [grow_if, if_neg hn, if_neg h]
      intro t ht
      cases ht

theorem paths_facts {l : List ByteArray} {i : Nat} {s : ByteArray} (hl : l.length ≤ 200) (hs : l[i]? = some s) :
    checkIn s (i : Int) (l.length : Int) (path l i) (root l) = true ∧ checkIn s (i : Int) (l.length : Int) (path l i ++ [root l]) (root l) = false ∧ checkIn s (l.length : Int) (l.length : Int) (path l i) (root l) = false := by
  have hil : i < l.length := (List.getElem?_eq_some_iff.1 hs).1
  refine ⟨?_, ?_, ?_⟩
  · unfold checkIn
    rw [if_pos ⟨⟨by omega, by omega⟩, by omega, by omega⟩]
    simp only [Int.toNat_natCast]
    rw [up_path l i s hs]
    simp [eq6_same]
  · unfold checkIn
    rw [if_pos ⟨⟨by omega, by omega⟩, by omega, by omega⟩]
    simp only [Int.toNat_natCast]
    rw [up_len, List.length_append, path_len]
    simp
  · unfold checkIn
    rw [if_neg (by rintro ⟨_, _, h⟩; omega)]
theorem grown_facts {l : List ByteArray} {n : Nat} (hl : l.length ≤ 200) (h1 : 1 ≤ n) (hn : n < l.length) :
    checkGrow (n : Int) (l.length : Int) (root (l.take n)) (root l) (grow l n true) = true ∧ checkGrow (n : Int) (l.length : Int) (root (l.take n)) (root l) (grow l n true ++ [root l]) = false := by
  constructor
  · unfold checkGrow
    rw [if_pos ⟨by omega, by omega⟩, if_neg (by omega), if_pos ⟨by omega, by omega⟩]
    simp only [Int.toNat_natCast]
    rw [grown_grow l n true _ h1 (by omega) (fun _ => rfl)]
    simp [eq6_same]
  · unfold checkGrow
    rw [if_pos ⟨by omega, by omega⟩, if_neg (by omega), if_pos ⟨by omega, by omega⟩]
    simp only [Int.toNat_natCast]
    rw [grown_len _ _ _ _ _ h1 (by omega), List.length_append, grow_len]
    simp
theorem grown_self {m : Nat} (hm : m ≤ 200) (r : ByteArray) : checkGrow (m : Int) (m : Int) r r [] = true := by
  unfold checkGrow
  rw [if_pos ⟨by omega, by omega⟩, if_pos rfl]
  simp [eq6_same]
theorem grown_zero {m : Nat} (h1 : 1 ≤ m) (r : ByteArray) : checkGrow 0 (m : Int) r r [] = false := by
  unfold checkGrow
  split
  · rw [if_neg (by omega), if_neg (by omega)]
  · rfl

end Go.Proofs.YtccnhhdcdamgmaaDoor.Tr
