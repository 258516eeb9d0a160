/- Contracts of the specification's chapter 2: what is padded, hex digits, and digests, as plain functions of lists of numbers. -/
import Derived.Test.YthcmkpdmdkpebaaBytes
import Derived.Test.YthcmkpdmdkpebaaLaws
import Derived.Test.YthcmkpdmdkpebaaPlain
import Derived.Test.YthcmkpdmdkpebaaPlain2
import Derived.Deep.RegionLaw
import Derived.Deep.RegionHeld3
namespace Go.Proofs.Ythcmkpdmdkpebaa.Sha
open Go.RowKit Go.Proofs.Ythcmkpdmdkpebaa.Mem Go.Proofs.Ythcmkpdmdkpebaa.Laws Go.Proofs.Ythcmkpdmdkpebaa.Bytes
set_option linter.unusedVariables false
set_option linter.unusedSimpArgs false

/-- how many bytes 0 are padded behind n bytes and the byte 128 -/
def zc (n : Nat) : Nat := (120 - (n + 1) % 64) % 64
/-- a number's eight bytes, the highest first -/
def be8 (n : Nat) : List Int := [((n / 2 ^ 56 % 256 : Nat) : Int), ((n / 2 ^ 48 % 256 : Nat) : Int), ((n / 2 ^ 40 % 256 : Nat) : Int), ((n / 2 ^ 32 % 256 : Nat) : Int), ((n / 2 ^ 24 % 256 : Nat) : Int), ((n / 2 ^ 16 % 256 : Nat) : Int), ((n / 2 ^ 8 % 256 : Nat) : Int), ((n % 256 : Nat) : Int)]
def padded (xs : List Int) : List Int := xs ++ [128] ++ List.replicate (zc xs.length) 0 ++ be8 (xs.length * 8)

theorem be8_get (n t : Nat) (ht : t < 8) : (be8 n)[t]? = some ((n : Int) / 2 ^ (56 - 8 * t) % 256) := by
  rcases (show t = 0 ∨ t = 1 ∨ t = 2 ∨ t = 3 ∨ t = 4 ∨ t = 5 ∨ t = 6 ∨ t = 7 by omega) with rfl | rfl | rfl | rfl | rfl | rfl | rfl | rfl <;> simp [be8]

theorem one_byte (x : Int) : ∀ u ∈ [Value.int .u8 x], u.oneCell' = true := by
  intro u hu
  rw [List.mem_singleton] at hu
  rw [hu]
  rfl

theorem Own.emptyB (w : World) (lo : Nat) (h : lo ≤ w.heap.size) : Own (w.alloc (.cells #[] 5)) lo (w.alloc (.cells #[] 5)).heap.size 5 (.slice (some ⟨w.heap.size, 0, none⟩) 0 0) (bs []) :=
  Own.of (World.ownsRow_lit w #[] 0 h (Nat.zero_le _) rfl)

/-- a hex digit -/
def hexd (d : Int) : Int := if d < 10 then 48 + d else 87 + d
def hexs (xs : List Int) : List Int := xs.flatMap fun c => [hexd (c / 16), hexd (c % 16)]
theorem hexs_app (xs ys : List Int) : hexs (xs ++ ys) = hexs xs ++ hexs ys := by simp [hexs]
theorem hexs_one (c : Int) : hexs [c] = [hexd (c / 16), hexd (c % 16)] := by simp [hexs]
theorem hexs_len (xs : List Int) : (hexs xs).length = 2 * xs.length := by
  induction xs with
  | nil => rfl
  | cons x r ih => rw [show x :: r = [x] ++ r from rfl, hexs_app, hexs_one]; simp [ih]; omega
def lit16 : ByteArray := ⟨#[48, 49, 50, 51, 52, 53, 54, 55, 56, 57, 97, 98, 99, 100, 101, 102]⟩

theorem lit_get (d : Int) (h0 : 0 ≤ d) (h1 : d < 16) (hp : d.toNat < (⟨#[48, 49, 50, 51, 52, 53, 54, 55, 56, 57, 97, 98, 99, 100, 101, 102]⟩ : ByteArray).size) :
    ((((⟨#[48, 49, 50, 51, 52, 53, 54, 55, 56, 57, 97, 98, 99, 100, 101, 102]⟩ : ByteArray)[d.toNat]'hp).toNat : Nat) : Int) = hexd d := by
  rcases (show d = 0 ∨ d = 1 ∨ d = 2 ∨ d = 3 ∨ d = 4 ∨ d = 5 ∨ d = 6 ∨ d = 7 ∨ d = 8 ∨ d = 9 ∨ d = 10 ∨ d = 11 ∨ d = 12 ∨ d = 13 ∨ d = 14 ∨ d = 15 by omega) with rfl | rfl | rfl | rfl | rfl | rfl | rfl | rfl | rfl | rfl | rfl | rfl | rfl | rfl | rfl | rfl <;> rfl

theorem Sl.two (w : World) (a b : Int) (t : TypeId) : Sl (w.alloc (.cells #[.int .u8 a, .int .u8 b] t)) (.slice (some ⟨w.heap.size, 0, none⟩) 2 2) (bs [a, b]) := by
  refine ⟨some ⟨w.heap.size, 0, none⟩, 2, rfl, by simp [bs], fun h => (by cases h), fun _ => ⟨w.heap.size, 0, rfl, fun j hj => ?_⟩⟩
  rw [cell_of_row _ w.heap.size (0 + j) #[.int .u8 a, .int .u8 b] t (0, 0) (heap_alloc_new w _)]
  have h2 : j = 0 ∨ j = 1 := by simp [bs] at hj; omega
  rcases h2 with rfl | rfl <;> simp [bs]

theorem sb_get (s : ByteArray) (k : Nat) (h : k < s.size) : (sb s)[k]? = some ((s[k]'h).toNat : Int) := by
  have h2 : k < s.data.toList.length := by simpa using h
  simp only [sb, List.getElem?_map, List.getElem?_eq_getElem h2, Option.map_some]
  rfl

theorem hexd_byt {d : Int} (h0 : 0 ≤ d) (h1 : d < 16) : 0 ≤ hexd d ∧ hexd d ≤ 255 := by unfold hexd; split <;> omega
theorem hexs_byt (xs : List Int) (h : Byt xs) : Byt (hexs xs) := by
  intro x hx
  obtain ⟨c, hc, hx2⟩ := List.mem_flatMap.1 hx
  have hb := h c hc
  simp only [List.mem_cons, List.not_mem_nil, or_false] at hx2
  rcases hx2 with rfl | rfl
  · exact hexd_byt (by omega) (by omega)
  · exact hexd_byt (by omega) (by omega)

/-- a hex digit's number; below 0 where it is none -/
def undig (c : Int) : Int := if 48 ≤ c ∧ c ≤ 57 then c - 48 else if 97 ≤ c ∧ c ≤ 102 then c - 87 else -1
theorem undig_bd (c : Int) : -1 ≤ undig c ∧ undig c ≤ 15 := by unfold undig; split <;> (try split) <;> omega

/-- pairs of hex digits as bytes -/
def unhex : List Int → Option (List Int)
  | [] => some []
  | [_] => none
  | a :: b :: r => if undig a < 0 ∨ undig b < 0 then none else (unhex r).map fun l => (undig a * 16 + undig b) :: l

set_option maxRecDepth 1000000 in
set_option maxHeartbeats 1000000 in
theorem in_spec (w : World) (x a b : Int) : Calls Try.prog 6 #[.int .i64 x, .int .i64 a, .int .i64 b] w fun e w' => e = .returned (.bool (decide (a ≤ x ∧ x ≤ b))) ∧ w = w' := by
  by_cases h1 : a ≤ x
  · have hd1 : decide (a ≤ x) = true := by simpa using h1
    by_cases h2 : x ≤ b
    · have hd2 : decide (x ≤ b) = true := by simpa using h2
      go_enter Try.func6, Try.ntmps6
      go_wp2
      go_ret
      exact ⟨by simp [h1, h2], rfl⟩
    · have hd2 : decide (x ≤ b) = false := by simpa using h2
      go_enter Try.func6, Try.ntmps6
      go_wp2
      go_ret
      exact ⟨by simp [h1, h2], rfl⟩
  · have hd1 : decide (a ≤ x) = false := by simpa using h1
    go_enter Try.func6, Try.ntmps6
    go_wp2
    go_ret
    exact ⟨by simp [h1], rfl⟩

/-- What UnHex answers. -/
def unHex (s : ByteArray) : ByteArray × Bool := match unhex (sb s) with
  | some l => (Plain.txt l, true)
  | none => (⟨#[]⟩, false)
theorem unHex_none {s : ByteArray} (h : unhex (sb s) = none) : unHex s = (⟨#[]⟩, false) := by unfold unHex; rw [h]
theorem unHex_some {s : ByteArray} {l : List Int} (h : unhex (sb s) = some l) : unHex s = (Plain.txt l, true) := by unfold unHex; rw [h]

theorem unhex_bad {a b : Int} {r : List Int} (h : undig a < 0 ∨ undig b < 0) : unhex (a :: b :: r) = none := by rw [unhex, if_pos h]
theorem unhex_good {a b : Int} {r : List Int} (h : ¬ (undig a < 0 ∨ undig b < 0)) : unhex (a :: b :: r) = (unhex r).map fun l => (undig a * 16 + undig b) :: l := by rw [unhex, if_neg h]

theorem drop_two {l : List Int} {k : Nat} {a b : Int} (h1 : l[k]? = some a) (h2 : l[k + 1]? = some b) : l.drop k = a :: b :: l.drop (k + 2) := by
  obtain ⟨hk, rfl⟩ := List.getElem?_eq_some_iff.1 h1
  obtain ⟨hk2, rfl⟩ := List.getElem?_eq_some_iff.1 h2
  rw [List.drop_eq_getElem_cons hk, List.drop_eq_getElem_cons hk2]

theorem ret2 {s s' : ByteArray} {c c' : Bool} (h1 : s = s') (h2 : c = c') : Ending.returned (.tuple #[.string s, .bool c]) = .returned (.tuple #[.string s', .bool c']) := by rw [h1, h2]

end Go.Proofs.Ythcmkpdmdkpebaa.Sha
