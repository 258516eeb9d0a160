/- Contracts of the specification's chapter 2: what is padded, hex digits, and digests, as plain functions of lists of numbers. -/
import Derived.Test.YteemblfjghnooaaBytes
import Derived.Test.YteemblfjghnooaaLaws
import Derived.Test.YteemblfjghnooaaPlain
import Derived.Test.YteemblfjghnooaaPlain2
import Derived.Deep.RegionLaw
import Derived.Deep.RegionHeld3
namespace Go.Proofs.Yteemblfjghnooaa.Sha
open Go.RowKit Go.Proofs.Yteemblfjghnooaa.Mem Go.Proofs.Yteemblfjghnooaa.Laws Go.Proofs.Yteemblfjghnooaa.Bytes
set_option linter.unusedVariables false
set_option linter.unusedSimpArgs false

/-- how many bytes 0 are padded behind n bytes and the byte 128 -/
def zc (n : Nat) : Nat := (120 - (n + 1) % 64) % 64
/-- a number's eight bytes, the highest first -/
def be8 (n : Nat) : List Int := [((n / 2 ^ 56 % 256 : Nat) : Int), ((n / 2 ^ 48 % 256 : Nat) : Int), ((n / 2 ^ 40 % 256 : Nat) : Int), ((n / 2 ^ 32 % 256 : Nat) : Int), ((n / 2 ^ 24 % 256 : Nat) : Int), ((n / 2 ^ 16 % 256 : Nat) : Int), ((n / 2 ^ 8 % 256 : Nat) : Int), ((n % 256 : Nat) : Int)]
def padded (xs : List Int) : List Int := xs ++ [128] ++ List.replicate (zc xs.length) 0 ++ be8 (xs.length * 8)

theorem be8_get (n t : Nat) (ht : t < 8) : (be8 n)[t]? = some ((n : Int) / 2 ^ (56 - 8 * t) % 256) := by
  rcases (show t = 0 ∨ t = 1 ∨ t = 2 ∨ t = 3 ∨ t = 4 ∨ t = 5 ∨ t = 6 ∨ t = 7 by omega) with rfl | rfl | rfl | rfl | rfl | rfl | rfl | rfl <;> simp [be8]

theorem one_byte (x : Int) : ∀ u ∈ [Value.int .u8 x], u.oneCell' = true := by
  intro u hu
  rw [List.mem_singleton] at hu
  rw [hu]
  rfl

theorem Own.emptyB (w : World) (lo : Nat) (h : lo ≤ w.heap.size) : Own (w.alloc (.cells #[] 5)) lo (w.alloc (.cells #[] 5)).heap.size 5 (.slice (some ⟨w.heap.size, 0, none⟩) 0 0) (bs []) :=
  Own.of (World.ownsRow_lit w #[] 0 h (Nat.zero_le _) rfl)

set_option maxRecDepth 1000000 in
set_option maxHeartbeats 1000000 in
theorem padded_spec (w : World) (v : Value) (xs : List Int) (h : Sl w v (bs xs)) (hx : xs.length ≤ 1000000000000) :
    Calls Try.prog 75 #[v] w fun e w' => ∃ v', e = .returned v' ∧ Own w' w.heap.size w'.heap.size 5 v' (bs (padded xs)) ∧ Below w.heap.size w w' := by
  obtain ⟨i0, hi, hz0, hz1, hz2⟩ := info_parts info5
  obtain ⟨ao, cap, hv⟩ : ∃ ao cap, v = .slice ao xs.length cap := by
    obtain ⟨ao, cap, rfl, _⟩ := h
    exact ⟨ao, cap, by rw [bs_len]⟩
  subst hv
  have c2 : (bs []).length + (bs xs).length ≤ maxLen := by rw [bs_len, bs_len]; unfold maxLen; simp; omega
  have c3 : ((bs []).length + (bs xs).length) * 1 ≤ 140737488355328 := by rw [bs_len, bs_len]; simp; omega
  have c4 : ∀ o, w.heap.size ≤ (w.alloc o).heap.size := fun o => by simp
  have hs2 : ∀ o, Sl (w.alloc o) (.slice ao xs.length cap) (bs xs) := fun o => h.later ((Below.refl _ _).alloc (Nat.le_refl _) o)
  go_enter Try.func75, Try.ntmps75
  go_wp2_with (at_builtin; go_must (refine wpl_app _ rfl (.tmp 6) (.tmp 7) 22 rfl 5 i0 (.int .u8 0) 1 Try.underlying22 hi hz0 hz1 hz2 rfl w.heap.size _ (bs []) rfl (Own.emptyB w _ (Nat.le_refl _)) _ rfl (bs xs) (hs2 _) (bs_one _) c2 c3 (c4 _) ?_))
  intro v1 w1 ho1 hb1 hg1
  have hb2 : Below w.heap.size w w1 := ((Below.refl _ _).alloc (Nat.le_refl _) _).trans hb1
  rw [← bs_app, List.nil_append] at ho1
  have hsz1 := hb2.size
  clear hg1 hb1 c2 c3 c4 hs2
  have c2 : (bs xs).length + 1 ≤ maxLen := by rw [bs_len]; unfold maxLen; omega
  have c3 : ((bs xs).length + 1) * 1 ≤ 140737488355328 := by rw [bs_len]; omega
  have c4 : ∀ o, w.heap.size ≤ (w1.alloc o).heap.size := fun o => by simp; omega
  go_wp2_with (at_builtin; go_must (refine wpl_app _ rfl (.tmp 8) (.tmp 9) 22 rfl 5 i0 (.int .u8 0) 1 Try.underlying22 hi hz0 hz1 hz2 rfl w.heap.size _ (bs xs) rfl (ho1.alloc _) _ rfl [.int .u8 128] (Sl.one _ _ _) (one_byte _) c2 c3 (c4 _) ?_))
  intro v2 w2 ho2 hb3 hg3
  have hb4 : Below w.heap.size w w2 := (hb2.alloc hsz1 _).trans hb3
  have ho3 : Own w2 w.heap.size w2.heap.size 5 v2 (bs (xs ++ [128] ++ List.replicate 0 0)) := by rw [List.replicate_zero, List.append_nil, bs_app]; exact ho2
  clear hg3 hb3 c2 c3 c4 hb2 hsz1 ho1 ho2
  have hzc : zc xs.length < 64 := by unfold zc; omega
  go_wp2
  go_loopw [3] (fun b wr => ∃ (j : Nat) (ao : Option Addr) (cap : Nat), j ≤ zc xs.length ∧ b = .slice ao (xs.length + 1 + j) cap ∧ Own wr w.heap.size wr.heap.size 5 b (bs (xs ++ [128] ++ List.replicate j 0)) ∧ Below w.heap.size w wr) (fun b _ => xs.length + 100 - (match b with | .slice _ n _ => n | _ => 0))
  case atStart =>
    obtain ⟨ao2, cap2, hv2⟩ := ho3.len
    exact ⟨0, ao2, cap2, Nat.zero_le _, by rw [hv2, bs_len]; simp, ho3, hb4⟩
  case round =>
    obtain ⟨j, ao2, cap2, hj, rfl, ho, hb⟩ := hrel
    have hsz := hb.size
    clear ho3 hb4
    by_cases hlt : j < zc xs.length
    · have hne : (((xs.length : Int) + 1 + (j : Int)) % 64 != 56) = true := by
        simp only [bne_iff_ne, ne_eq]
        unfold zc at hlt
        omega
      have hl : (bs (xs ++ [128] ++ List.replicate j 0)).length = xs.length + 1 + j := by rw [bs_len]; simp; omega
      have c2 : (bs (xs ++ [128] ++ List.replicate j 0)).length + 1 ≤ maxLen := by rw [hl]; unfold maxLen; omega
      have c3 : ((bs (xs ++ [128] ++ List.replicate j 0)).length + 1) * 1 ≤ 140737488355328 := by rw [hl]; omega
      have c4 : ∀ o, w.heap.size ≤ (wr.alloc o).heap.size := fun o => by simp; omega
      clear hl
      go_wp2_with (at_builtin; go_must (refine wpl_app _ rfl (.tmp 15) (.tmp 16) 22 rfl 5 i0 (.int .u8 0) 1 Try.underlying22 hi hz0 hz1 hz2 rfl w.heap.size _ (bs (xs ++ [128] ++ List.replicate j 0)) rfl (ho.alloc _) _ rfl [.int .u8 0] (Sl.one _ _ _) (one_byte _) c2 c3 (c4 _) ?_); intro v3 w3 ho5 hb5 hg5)
      have hb6 : Below w.heap.size w w3 := (hb.alloc hsz _).trans hb5
      have ho6 : Own w3 w.heap.size w3.heap.size 5 v3 (bs (xs ++ [128] ++ List.replicate (j + 1) 0)) := by
        rw [List.replicate_succ', ← List.append_assoc, bs_app]; exact ho5
      obtain ⟨ao3, cap3, hv3⟩ := ho6.len
      have hl6 : (bs (xs ++ [128] ++ List.replicate (j + 1) 0)).length = xs.length + 1 + (j + 1) := by rw [bs_len]; simp; omega
      rw [hl6] at hv3
      subst hv3
      clear hl6
      go_roundw
      case rel => exact ⟨j + 1, ao3, cap3, by omega, rfl, ho6, hb6⟩
      case measure => simp; omega
    · have hj2 : j = zc xs.length := by omega
      have hne : (((xs.length : Int) + 1 + (j : Int)) % 64 != 56) = false := by
        simp only [bne_eq_false_iff_eq]
        unfold zc at hj2
        omega
      obtain ⟨L, hL⟩ : ∃ L, L = xs ++ [128] ++ List.replicate j 0 := ⟨_, rfl⟩
      have hLl : L.length ≤ xs.length + 100 := by rw [hL]; simp; omega
      have HL : Hid (L ++ be8 (xs.length * 8) = padded xs) := by show _ = _; rw [hL, hj2]; rfl
      have ho7 : Own wr w.heap.size wr.heap.size 5 (.slice ao2 (xs.length + 1 + j) cap2) (bs (L ++ (be8 (xs.length * 8)).take 0)) := by rw [List.take_zero, List.append_nil, hL]; exact ho
      clear hL hj2 ho hlt hzc
      go_wp2
      go_loopw [3, 5] (fun b kk wr => ∃ t : Nat, t ≤ 8 ∧ kk = .int .i64 (56 - 8 * (t : Int)) ∧ Own wr w.heap.size wr.heap.size 5 b (bs (L ++ (be8 (xs.length * 8)).take t)) ∧ Below w.heap.size w wr) (fun _ kk _ => (intOf kk + 9).toNat)
      case atStart => exact ⟨0, by omega, rfl, ho7, hb⟩
      case round =>
        obtain ⟨t, ht, rfl, ho8, hb8⟩ := hrel
        have hsz8 := hb8.size
        clear ho7 hb hsz hne
        by_cases htl : t < 8
        · have hl : (bs (L ++ (be8 (xs.length * 8)).take t)).length ≤ xs.length + 108 := by rw [bs_len]; simp; omega
          have c2 : (bs (L ++ (be8 (xs.length * 8)).take t)).length + 1 ≤ maxLen := by unfold maxLen; omega
          have c3 : ((bs (L ++ (be8 (xs.length * 8)).take t)).length + 1) * 1 ≤ 140737488355328 := by omega
          have c4 : ∀ o, w.heap.size ≤ (wr.alloc o).heap.size := fun o => by simp; omega
          clear hl
          go_wp2_with (at_builtin; go_must (refine wpl_app _ rfl (.tmp 25) (.tmp 31) 22 rfl 5 i0 (.int .u8 0) 1 Try.underlying22 hi hz0 hz1 hz2 rfl w.heap.size _ (bs (L ++ (be8 (xs.length * 8)).take t)) rfl (ho8.alloc _) _ rfl [.int .u8 ((xs.length : Int) * 8 / 2 ^ (56 - 8 * t) % 256)] (Sl.one _ _ _) (one_byte _) c2 c3 (c4 _) ?_); intro v9 w9 ho9 hb9 hg9)
          have hb10 : Below w.heap.size w w9 := (hb8.alloc hsz8 _).trans hb9
          have ho10 : Own w9 w.heap.size w9.heap.size 5 v9 (bs (L ++ (be8 (xs.length * 8)).take (t + 1))) := by
            rw [take_snoc (be8_get (xs.length * 8) t htl), ← List.append_assoc, bs_app]; exact ho9
          go_roundw
          case rel => exact ⟨t + 1, by omega, by go_num, ho10, hb10⟩
          case measure => simp [intOf]; omega
        · go_wp2
          go_ret
          have h8 := HL.out
          rw [List.take_of_length_le (show (be8 (xs.length * 8)).length ≤ t by simp [be8]; omega), h8] at ho8
          exact ⟨_, rfl, ho8, hb8⟩

/-- a hex digit -/
def hexd (d : Int) : Int := if d < 10 then 48 + d else 87 + d
def hexs (xs : List Int) : List Int := xs.flatMap fun c => [hexd (c / 16), hexd (c % 16)]
theorem hexs_app (xs ys : List Int) : hexs (xs ++ ys) = hexs xs ++ hexs ys := by simp [hexs]
theorem hexs_one (c : Int) : hexs [c] = [hexd (c / 16), hexd (c % 16)] := by simp [hexs]
theorem hexs_len (xs : List Int) : (hexs xs).length = 2 * xs.length := by
  induction xs with
  | nil => rfl
  | cons x r ih => rw [show x :: r = [x] ++ r from rfl, hexs_app, hexs_one]; simp [ih]; omega
def lit16 : ByteArray := ⟨#[48, 49, 50, 51, 52, 53, 54, 55, 56, 57, 97, 98, 99, 100, 101, 102]⟩

theorem lit_get (d : Int) (h0 : 0 ≤ d) (h1 : d < 16) (hp : d.toNat < (⟨#[48, 49, 50, 51, 52, 53, 54, 55, 56, 57, 97, 98, 99, 100, 101, 102]⟩ : ByteArray).size) :
    ((((⟨#[48, 49, 50, 51, 52, 53, 54, 55, 56, 57, 97, 98, 99, 100, 101, 102]⟩ : ByteArray)[d.toNat]'hp).toNat : Nat) : Int) = hexd d := by
  rcases (show d = 0 ∨ d = 1 ∨ d = 2 ∨ d = 3 ∨ d = 4 ∨ d = 5 ∨ d = 6 ∨ d = 7 ∨ d = 8 ∨ d = 9 ∨ d = 10 ∨ d = 11 ∨ d = 12 ∨ d = 13 ∨ d = 14 ∨ d = 15 by omega) with rfl | rfl | rfl | rfl | rfl | rfl | rfl | rfl | rfl | rfl | rfl | rfl | rfl | rfl | rfl | rfl <;> rfl

theorem Sl.two (w : World) (a b : Int) (t : TypeId) : Sl (w.alloc (.cells #[.int .u8 a, .int .u8 b] t)) (.slice (some ⟨w.heap.size, 0, none⟩) 2 2) (bs [a, b]) := by
  refine ⟨some ⟨w.heap.size, 0, none⟩, 2, rfl, by simp [bs], fun h => (by cases h), fun _ => ⟨w.heap.size, 0, rfl, fun j hj => ?_⟩⟩
  rw [cell_of_row _ w.heap.size (0 + j) #[.int .u8 a, .int .u8 b] t (0, 0) (heap_alloc_new w _)]
  have h2 : j = 0 ∨ j = 1 := by simp [bs] at hj; omega
  rcases h2 with rfl | rfl <;> simp [bs]

theorem sb_get (s : ByteArray) (k : Nat) (h : k < s.size) : (sb s)[k]? = some ((s[k]'h).toNat : Int) := by
  have h2 : k < s.data.toList.length := by simpa using h
  simp only [sb, List.getElem?_map, List.getElem?_eq_getElem h2, Option.map_some]
  rfl

theorem hexd_byt {d : Int} (h0 : 0 ≤ d) (h1 : d < 16) : 0 ≤ hexd d ∧ hexd d ≤ 255 := by unfold hexd; split <;> omega
theorem hexs_byt (xs : List Int) (h : Byt xs) : Byt (hexs xs) := by
  intro x hx
  obtain ⟨c, hc, hx2⟩ := List.mem_flatMap.1 hx
  have hb := h c hc
  simp only [List.mem_cons, List.not_mem_nil, or_false] at hx2
  rcases hx2 with rfl | rfl
  · exact hexd_byt (by omega) (by omega)
  · exact hexd_byt (by omega) (by omega)

theorem conv_none (ao : Option Addr) (c : Nat) (w : World) : (convert 22 9 (.slice ao 0 c)).run Try.prog w = .ok (.string ⟨#[]⟩) w := by
  cases ao with
  | none => rw [run_convert_bytes_string w 22 9 5 none 0 c Try.underlying22 Try.underlying5 Try.underlying9]; rfl
  | some a => exact run_convert_bytes_back w 22 9 5 a c [] Try.underlying22 Try.underlying5 Try.underlying9 (fun j hj => by simp at hj)

theorem conv_sl {w : World} {v : Value} {zs : List Int} (h : Sl w v (bs zs)) (hb : Byt zs) : (convert 22 9 v).run Try.prog w = .ok (.string (Plain.txt zs)) w := by
  obtain ⟨ao, cap, rfl, hc, _, hr⟩ := h
  rw [bs_len] at hr hc
  rw [bs_len]
  by_cases h0 : zs.length = 0
  · have hz : zs = [] := List.eq_nil_of_length_eq_zero h0
    subst hz
    exact conv_none ao cap w
  · obtain ⟨b, off, rfl, hcell⟩ := hr (by omega)
    have hl : (Plain.u8s zs).length = zs.length := Plain.u8s_len zs
    have h := run_convert_bytes_back (P := Try.prog) w 22 9 5 ⟨b, off, none⟩ cap (Plain.u8s zs) Try.underlying22 Try.underlying5 Try.underlying9 (fun j hj => by
      rw [hl] at hj
      rw [Addr.add_lit, hcell j hj, bs_get]
      have hx : zs[j]? = some (zs[j]'hj) := by simp
      have hy := hb.at hx
      rw [hx]
      simp only [Plain.u8s, List.getElem_map, Option.map_some]
      rw [Plain.u8_back hy])
    rw [hl] at h
    exact h

/-- a hex digit's number; below 0 where it is none -/
def undig (c : Int) : Int := if 48 ≤ c ∧ c ≤ 57 then c - 48 else if 97 ≤ c ∧ c ≤ 102 then c - 87 else -1
theorem undig_bd (c : Int) : -1 ≤ undig c ∧ undig c ≤ 15 := by unfold undig; split <;> (try split) <;> omega

/-- pairs of hex digits as bytes -/
def unhex : List Int → Option (List Int)
  | [] => some []
  | [_] => none
  | a :: b :: r => if undig a < 0 ∨ undig b < 0 then none else (unhex r).map fun l => (undig a * 16 + undig b) :: l

set_option maxRecDepth 1000000 in
set_option maxHeartbeats 1000000 in
theorem in_spec (w : World) (x a b : Int) : Calls Try.prog 38 #[.int .i64 x, .int .i64 a, .int .i64 b] w fun e w' => e = .returned (.bool (decide (a ≤ x ∧ x ≤ b))) ∧ w = w' := by
  by_cases h1 : a ≤ x
  · have hd1 : decide (a ≤ x) = true := by simpa using h1
    by_cases h2 : x ≤ b
    · have hd2 : decide (x ≤ b) = true := by simpa using h2
      go_enter Try.func38, Try.ntmps38
      go_wp2
      go_ret
      exact ⟨by simp [h1, h2], rfl⟩
    · have hd2 : decide (x ≤ b) = false := by simpa using h2
      go_enter Try.func38, Try.ntmps38
      go_wp2
      go_ret
      exact ⟨by simp [h1, h2], rfl⟩
  · have hd1 : decide (a ≤ x) = false := by simpa using h1
    go_enter Try.func38, Try.ntmps38
    go_wp2
    go_ret
    exact ⟨by simp [h1], rfl⟩

/-- What UnHex answers. -/
def unHex (s : ByteArray) : ByteArray × Bool := match unhex (sb s) with
  | some l => (Plain.txt l, true)
  | none => (⟨#[]⟩, false)
theorem unHex_none {s : ByteArray} (h : unhex (sb s) = none) : unHex s = (⟨#[]⟩, false) := by unfold unHex; rw [h]
theorem unHex_some {s : ByteArray} {l : List Int} (h : unhex (sb s) = some l) : unHex s = (Plain.txt l, true) := by unfold unHex; rw [h]

theorem unhex_bad {a b : Int} {r : List Int} (h : undig a < 0 ∨ undig b < 0) : unhex (a :: b :: r) = none := by rw [unhex, if_pos h]
theorem unhex_good {a b : Int} {r : List Int} (h : ¬ (undig a < 0 ∨ undig b < 0)) : unhex (a :: b :: r) = (unhex r).map fun l => (undig a * 16 + undig b) :: l := by rw [unhex, if_neg h]

theorem drop_two {l : List Int} {k : Nat} {a b : Int} (h1 : l[k]? = some a) (h2 : l[k + 1]? = some b) : l.drop k = a :: b :: l.drop (k + 2) := by
  obtain ⟨hk, rfl⟩ := List.getElem?_eq_some_iff.1 h1
  obtain ⟨hk2, rfl⟩ := List.getElem?_eq_some_iff.1 h2
  rw [List.drop_eq_getElem_cons hk, List.drop_eq_getElem_cons hk2]

theorem ret2 {s s' : ByteArray} {c c' : Bool} (h1 : s = s') (h2 : c = c') : Ending.returned (.tuple #[.string s, .bool c]) = .returned (.tuple #[.string s', .bool c']) := by rw [h1, h2]

end Go.Proofs.Yteemblfjghnooaa.Sha
