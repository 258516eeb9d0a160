/- Texts in one: Sha, Ver1, Ver2. -/
import Derived.Test.YtbopliahafkecaaGreatDoorPk3
import Derived.Test.YtbopliahafkecaaGreatDoorPk2
import Derived.Test.YtbopliahafkecaaGreatDoorPk6
import Derived.Deep.RegionLaw
import Derived.Deep.RegionHeld3
/- Contracts of the specification's chapter 2: what is padded, hex digits, and digests, as plain functions of lists of numbers. -/
namespace Go.Proofs.YtbopliahafkecaaGreatDoor.Sha
open Go.RowKit Go.Proofs.YtbopliahafkecaaGreatDoor.Mem Go.Proofs.YtbopliahafkecaaGreatDoor.Laws Go.Proofs.YtbopliahafkecaaGreatDoor.Bytes
set_option linter.unusedVariables false
set_option linter.unusedSimpArgs false

/-- how many bytes 0 are padded behind n bytes and the byte 128 -/
def zc (n : Nat) : Nat := (120 - (n + 1) % 64) % 64
/-- a number's eight bytes, the highest first -/
def be8 (n : Nat) : List Int := [((n / 2 ^ 56 % 256 : Nat) : Int), ((n / 2 ^ 48 % 256 : Nat) : Int), ((n / 2 ^ 40 % 256 : Nat) : Int), ((n / 2 ^ 32 % 256 : Nat) : Int), ((n / 2 ^ 24 % 256 : Nat) : Int), ((n / 2 ^ 16 % 256 : Nat) : Int), ((n / 2 ^ 8 % 256 : Nat) : Int), ((n % 256 : Nat) : Int)]
def padded (xs : List Int) : List Int := xs ++ [128] ++ List.replicate (zc xs.length) 0 ++ be8 (xs.length * 8)

theorem be8_get (n t : Nat) (ht : t < 8) : (be8 n)[t]? = some ((n : Int) / 2 ^ (56 - 8 * t) % 256) := by
  rcases (show t = 0 ∨ t = 1 ∨ t = 2 ∨ t = 3 ∨ t = 4 ∨ t = 5 ∨ t = 6 ∨ t = 7 by omega) with rfl | rfl | rfl | rfl | rfl | rfl | rfl | rfl <;> simp [be8]

theorem one_byte (x : Int) : ∀ u ∈ [Value.int .u8 x], u.oneCell' = true := by
  intro u hu
  rw [List.mem_singleton] at hu
  rw [hu]
  rfl

theorem Own.emptyB (w : World) (lo : Nat) (h : lo ≤ w.heap.size) : Own (w.alloc (.cells #[] 5)) lo (w.alloc (.cells #[] 5)).heap.size 5 (.slice (some ⟨w.heap.size, 0, none⟩) 0 0) (bs []) :=
  Own.of (World.ownsRow_lit w #[] 0 h (Nat.zero_le _) rfl)

set_option maxRecDepth 1000000 in
set_option maxHeartbeats 1000000 in
theorem padded_spec (w : World) (v : Value) (xs : List Int) (h : Sl w v (bs xs)) (hx : xs.length ≤ 1000000000000) :
    Calls Tryz.prog 96 #[v] w fun e w' => ∃ v', e = .returned v' ∧ Own w' w.heap.size w'.heap.size 5 v' (bs (padded xs)) ∧ Below w.heap.size w w' := by
  obtain ⟨i0, hi, hz0, hz1, hz2⟩ := info_parts info5
  obtain ⟨ao, cap, hv⟩ : ∃ ao cap, v = .slice ao xs.length cap := by
    obtain ⟨ao, cap, rfl, _⟩ := h
    exact ⟨ao, cap, by rw [bs_len]⟩
  subst hv
  have c2 : (bs []).length + (bs xs).length ≤ maxLen := by rw [bs_len, bs_len]; unfold maxLen; simp; omega
  have c3 : ((bs []).length + (bs xs).length) * 1 ≤ 140737488355328 := by rw [bs_len, bs_len]; simp; omega
  have c4 : ∀ o, w.heap.size ≤ (w.alloc o).heap.size := fun o => by simp
  have hs2 : ∀ o, Sl (w.alloc o) (.slice ao xs.length cap) (bs xs) := fun o => h.later ((Below.refl _ _).alloc (Nat.le_refl _) o)
  go_enter Tryz.func96, Tryz.ntmps96
  go_wp2_with (at_builtin; go_must (refine wpl_app _ rfl (.tmp 6) (.tmp 7) 22 rfl 5 i0 (.int .u8 0) 1 Tryz.underlying22 hi hz0 hz1 hz2 rfl w.heap.size _ (bs []) rfl (Own.emptyB w _ (Nat.le_refl _)) _ rfl (bs xs) (hs2 _) (bs_one _) c2 c3 (c4 _) ?_))
  intro v1 w1 ho1 hb1 hg1
  have hb2 : Below w.heap.size w w1 := ((Below.refl _ _).alloc (Nat.le_refl _) _).trans hb1
  rw [← bs_app, List.nil_append] at ho1
  have hsz1 := hb2.size
  clear hg1 hb1 c2 c3 c4 hs2
  have c2 : (bs xs).length + 1 ≤ maxLen := by rw [bs_len]; unfold maxLen; omega
  have c3 : ((bs xs).length + 1) * 1 ≤ 140737488355328 := by rw [bs_len]; omega
  have c4 : ∀ o, w.heap.size ≤ (w1.alloc o).heap.size := fun o => by simp; omega
  go_wp2_with (at_builtin; go_must (refine wpl_app _ rfl (.tmp 8) (.tmp 9) 22 rfl 5 i0 (.int .u8 0) 1 Tryz.underlying22 hi hz0 hz1 hz2 rfl w.heap.size _ (bs xs) rfl (ho1.alloc _) _ rfl [.int .u8 128] (Sl.one _ _ _) (one_byte _) c2 c3 (c4 _) ?_))
  intro v2 w2 ho2 hb3 hg3
  have hb4 : Below w.heap.size w w2 := (hb2.alloc hsz1 _).trans hb3
  have ho3 : Own w2 w.heap.size w2.heap.size 5 v2 (bs (xs ++ [128] ++ List.replicate 0 0)) := by rw [List.replicate_zero, List.append_nil, bs_app]; exact ho2
  clear hg3 hb3 c2 c3 c4 hb2 hsz1 ho1 ho2
  have hzc : zc xs.length < 64 := by unfold zc; omega
  go_wp2
  go_loopw [3] (fun b wr => ∃ (j : Nat) (ao : Option Addr) (cap : Nat), j ≤ zc xs.length ∧ b = .slice ao (xs.length + 1 + j) cap ∧ Own wr w.heap.size wr.heap.size 5 b (bs (xs ++ [128] ++ List.replicate j 0)) ∧ Below w.heap.size w wr) (fun b _ => xs.length + 100 - (match b with | .slice _ n _ => n | _ => 0))
  case atStart =>
    obtain ⟨ao2, cap2, hv2⟩ := ho3.len
    exact ⟨0, ao2, cap2, Nat.zero_le _, by rw [hv2, bs_len]; simp, ho3, hb4⟩
  case round =>
    obtain ⟨j, ao2, cap2, hj, rfl, ho, hb⟩ := hrel
    have hsz := hb.size
    clear ho3 hb4
    by_cases hlt : j < zc xs.length
    · have hne : (((xs.length : Int) + 1 + (j : Int)) % 64 != 56) = true := by
        simp only [bne_iff_ne, ne_eq]
        unfold zc at hlt
        omega
      have hl : (bs (xs ++ [128] ++ List.replicate j 0)).length = xs.length + 1 + j := by rw [bs_len]; simp; omega
      have c2 : (bs (xs ++ [128] ++ List.replicate j 0)).length + 1 ≤ maxLen := by rw [hl]; unfold maxLen; omega
      have c3 : ((bs (xs ++ [128] ++ List.replicate j 0)).length + 1) * 1 ≤ 140737488355328 := by rw [hl]; omega
      have c4 : ∀ o, w.heap.size ≤ (wr.alloc o).heap.size := fun o => by simp; omega
      clear hl
      go_wp2_with (at_builtin; go_must (refine wpl_app _ rfl (.tmp 15) (.tmp 16) 22 rfl 5 i0 (.int .u8 0) 1 Tryz.underlying22 hi hz0 hz1 hz2 rfl w.heap.size _ (bs (xs ++ [128] ++ List.replicate j 0)) rfl (ho.alloc _) _ rfl [.int .u8 0] (Sl.one _ _ _) (one_byte _) c2 c3 (c4 _) ?_); intro v3 w3 ho5 hb5 hg5)
      have hb6 : Below w.heap.size w w3 := (hb.alloc hsz _).trans hb5
      have ho6 : Own w3 w.heap.size w3.heap.size 5 v3 (bs (xs ++ [128] ++ List.replicate (j + 1) 0)) := by
        rw [List.replicate_succ', ← List.append_assoc, bs_app]; exact ho5
      obtain ⟨ao3, cap3, hv3⟩ := ho6.len
      have hl6 : (bs (xs ++ [128] ++ List.replicate (j + 1) 0)).length = xs.length + 1 + (j + 1) := by rw [bs_len]; simp; omega
      rw [hl6] at hv3
      subst hv3
      clear hl6
      go_roundw
      case rel => exact ⟨j + 1, ao3, cap3, by omega, rfl, ho6, hb6⟩
      case measure => simp; omega
    · have hj2 : j = zc xs.length := by omega
      have hne : (((xs.length : Int) + 1 + (j : Int)) % 64 != 56) = false := by
        simp only [bne_eq_false_iff_eq]
        unfold zc at hj2
        omega
      obtain ⟨L, hL⟩ : ∃ L, L = xs ++ [128] ++ List.replicate j 0 := ⟨_, rfl⟩
      have hLl : L.length ≤ xs.length + 100 := by rw [hL]; simp; omega
      have HL : Hid (L ++ be8 (xs.length * 8) = padded xs) := by show _ = _; rw [hL, hj2]; rfl
      have ho7 : Own wr w.heap.size wr.heap.size 5 (.slice ao2 (xs.length + 1 + j) cap2) (bs (L ++ (be8 (xs.length * 8)).take 0)) := by rw [List.take_zero, List.append_nil, hL]; exact ho
      clear hL hj2 ho hlt hzc
      go_wp2
      go_loopw [3, 5] (fun b kk wr => ∃ t : Nat, t ≤ 8 ∧ kk = .int .i64 (56 - 8 * (t : Int)) ∧ Own wr w.heap.size wr.heap.size 5 b (bs (L ++ (be8 (xs.length * 8)).take t)) ∧ Below w.heap.size w wr) (fun _ kk _ => (intOf kk + 9).toNat)
      case atStart => exact ⟨0, by omega, rfl, ho7, hb⟩
      case round =>
        obtain ⟨t, ht, rfl, ho8, hb8⟩ := hrel
        have hsz8 := hb8.size
        clear ho7 hb hsz hne
        by_cases htl : t < 8
        · have hl : (bs (L ++ (be8 (xs.length * 8)).take t)).length ≤ xs.length + 108 := by rw [bs_len]; simp; omega
          have c2 : (bs (L ++ (be8 (xs.length * 8)).take t)).length + 1 ≤ maxLen := by unfold maxLen; omega
          have c3 : ((bs (L ++ (be8 (xs.length * 8)).take t)).length + 1) * 1 ≤ 140737488355328 := by omega
          have c4 : ∀ o, w.heap.size ≤ (wr.alloc o).heap.size := fun o => by simp; omega
          clear hl
          go_wp2_with (at_builtin; go_must (refine wpl_app _ rfl (.tmp 25) (.tmp 31) 22 rfl 5 i0 (.int .u8 0) 1 Tryz.underlying22 hi hz0 hz1 hz2 rfl w.heap.size _ (bs (L ++ (be8 (xs.length * 8)).take t)) rfl (ho8.alloc _) _ rfl [.int .u8 ((xs.length : Int) * 8 / 2 ^ (56 - 8 * t) % 256)] (Sl.one _ _ _) (one_byte _) c2 c3 (c4 _) ?_); intro v9 w9 ho9 hb9 hg9)
          have hb10 : Below w.heap.size w w9 := (hb8.alloc hsz8 _).trans hb9
          have ho10 : Own w9 w.heap.size w9.heap.size 5 v9 (bs (L ++ (be8 (xs.length * 8)).take (t + 1))) := by
            rw [take_snoc (be8_get (xs.length * 8) t htl), ← List.append_assoc, bs_app]; exact ho9
          go_roundw
          case rel => exact ⟨t + 1, by omega, by go_num, ho10, hb10⟩
          case measure => simp [intOf]; omega
        · go_wp2
          go_ret
          have h8 := HL.out
          rw [List.take_of_length_le (show (be8 (xs.length * 8)).length ≤ t by simp [be8]; omega), h8] at ho8
          exact ⟨_, rfl, ho8, hb8⟩

/-- a hex digit -/
def hexd (d : Int) : Int := if d < 10 then 48 + d else 87 + d
def hexs (xs : List Int) : List Int := xs.flatMap fun c => [hexd (c / 16), hexd (c % 16)]
theorem hexs_app (xs ys : List Int) : hexs (xs ++ ys) = hexs xs ++ hexs ys := by simp [hexs]
theorem hexs_one (c : Int) : hexs [c] = [hexd (c / 16), hexd (c % 16)] := by simp [hexs]
theorem hexs_len (xs : List Int) : (hexs xs).length = 2 * xs.length := by
  induction xs with
  | nil => rfl
  | cons x r ih => rw [show x :: r = [x] ++ r from rfl, hexs_app, hexs_one]; simp [ih]; omega
def lit16 : ByteArray := ⟨#[48, 49, 50, 51, 52, 53, 54, 55, 56, 57, 97, 98, 99, 100, 101, 102]⟩

theorem lit_get (d : Int) (h0 : 0 ≤ d) (h1 : d < 16) (hp : d.toNat < (⟨#[48, 49, 50, 51, 52, 53, 54, 55, 56, 57, 97, 98, 99, 100, 101, 102]⟩ : ByteArray).size) :
    ((((⟨#[48, 49, 50, 51, 52, 53, 54, 55, 56, 57, 97, 98, 99, 100, 101, 102]⟩ : ByteArray)[d.toNat]'hp).toNat : Nat) : Int) = hexd d := by
  rcases (show d = 0 ∨ d = 1 ∨ d = 2 ∨ d = 3 ∨ d = 4 ∨ d = 5 ∨ d = 6 ∨ d = 7 ∨ d = 8 ∨ d = 9 ∨ d = 10 ∨ d = 11 ∨ d = 12 ∨ d = 13 ∨ d = 14 ∨ d = 15 by omega) with rfl | rfl | rfl | rfl | rfl | rfl | rfl | rfl | rfl | rfl | rfl | rfl | rfl | rfl | rfl | rfl <;> rfl

theorem Sl.two (w : World) (a b : Int) (t : TypeId) : Sl (w.alloc (.cells #[.int .u8 a, .int .u8 b] t)) (.slice (some ⟨w.heap.size, 0, none⟩) 2 2) (bs [a, b]) := by
  refine ⟨some ⟨w.heap.size, 0, none⟩, 2, rfl, by simp [bs], fun h => (by cases h), fun _ => ⟨w.heap.size, 0, rfl, fun j hj => ?_⟩⟩
  rw [cell_of_row _ w.heap.size (0 + j) #[.int .u8 a, .int .u8 b] t (0, 0) (heap_alloc_new w _)]
  have h2 : j = 0 ∨ j = 1 := by simp [bs] at hj; omega
  rcases h2 with rfl | rfl <;> simp [bs]

theorem sb_get (s : ByteArray) (k : Nat) (h : k < s.size) : (sb s)[k]? = some ((s[k]'h).toNat : Int) := by
  have h2 : k < s.data.toList.length := by simpa using h
  simp only [sb, List.getElem?_map, List.getElem?_eq_getElem h2, Option.map_some]
  rfl

theorem hexd_byt {d : Int} (h0 : 0 ≤ d) (h1 : d < 16) : 0 ≤ hexd d ∧ hexd d ≤ 255 := by unfold hexd; split <;> omega
theorem hexs_byt (xs : List Int) (h : Byt xs) : Byt (hexs xs) := by
  intro x hx
  obtain ⟨c, hc, hx2⟩ := List.mem_flatMap.1 hx
  have hb := h c hc
  simp only [List.mem_cons, List.not_mem_nil, or_false] at hx2
  rcases hx2 with rfl | rfl
  · exact hexd_byt (by omega) (by omega)
  · exact hexd_byt (by omega) (by omega)

theorem conv_none (ao : Option Addr) (c : Nat) (w : World) : (convert 22 9 (.slice ao 0 c)).run Tryz.prog w = .ok (.string ⟨#[]⟩) w := by
  cases ao with
  | none => rw [run_convert_bytes_string w 22 9 5 none 0 c Tryz.underlying22 Tryz.underlying5 Tryz.underlying9]; rfl
  | some a => exact run_convert_bytes_back w 22 9 5 a c [] Tryz.underlying22 Tryz.underlying5 Tryz.underlying9 (fun j hj => by simp at hj)

theorem conv_sl {w : World} {v : Value} {zs : List Int} (h : Sl w v (bs zs)) (hb : Byt zs) : (convert 22 9 v).run Tryz.prog w = .ok (.string (Plain.txt zs)) w := by
  obtain ⟨ao, cap, rfl, hc, _, hr⟩ := h
  rw [bs_len] at hr hc
  rw [bs_len]
  by_cases h0 : zs.length = 0
  · have hz : zs = [] := List.eq_nil_of_length_eq_zero h0
    subst hz
    exact conv_none ao cap w
  · obtain ⟨b, off, rfl, hcell⟩ := hr (by omega)
    have hl : (Plain.u8s zs).length = zs.length := Plain.u8s_len zs
    have h := run_convert_bytes_back (P := Tryz.prog) w 22 9 5 ⟨b, off, none⟩ cap (Plain.u8s zs) Tryz.underlying22 Tryz.underlying5 Tryz.underlying9 (fun j hj => by
      rw [hl] at hj
      rw [Addr.add_lit, hcell j hj, bs_get]
      have hx : zs[j]? = some (zs[j]'hj) := by simp
      have hy := hb.at hx
      rw [hx]
      simp only [Plain.u8s, List.getElem_map, Option.map_some]
      rw [Plain.u8_back hy])
    rw [hl] at h
    exact h

set_option maxRecDepth 1000000 in
set_option maxHeartbeats 2000000 in
theorem hex_spec (w : World) (s : ByteArray) (hs : s.size ≤ 10000000000000) :
    Calls Tryz.prog 33 #[.string s] w fun e w' => e = .returned (.string (Plain.txt (hexs (sb s)))) ∧ Below w.heap.size w w' := by
  obtain ⟨i0, hi, hz0, hz1, hz2⟩ := info_parts info5
  have ho0 := Own.emptyB w w.heap.size (Nat.le_refl _)
  have hb0 : Below w.heap.size w (w.alloc (.cells #[] 5)) := (Below.refl _ _).alloc (Nat.le_refl _) _
  go_enter Tryz.func33, Tryz.ntmps33
  go_wp2
  go_loopw [3, 4] (fun b i wr => ∃ k : Nat, k ≤ s.size ∧ i = .int .i64 k ∧ Own wr w.heap.size wr.heap.size 5 b (bs (hexs ((sb s).take k))) ∧ Below w.heap.size w wr) (fun _ i _ => s.size - (intOf i).toNat)
  case atStart => exact ⟨0, Nat.zero_le _, rfl, ho0, hb0⟩
  case round =>
    obtain ⟨k, hk, rfl, ho, hb⟩ := hrel
    have hsz := hb.size
    clear ho0 hb0
    by_cases hlt : k < s.size
    · have hlt' : (k : Int) < (s.size : Int) := by omega
      have hg0 := sb_get s k hlt
      have hcb := (sb_byt s).at hg0
      have b1 : (0 : Int) ≤ (s[k].toNat : Int) / 16 := by omega
      have b2 : (s[k].toNat : Int) / 16 < 16 := by omega
      have b3 : (0 : Int) ≤ (s[k].toNat : Int) % 16 := by omega
      have b4 : (s[k].toNat : Int) % 16 < 16 := by omega
      have hm := u8_and15 (s[k].toNat : Int) hcb.1 (by omega)
      have HG : Hid ((sb s)[k]? = some (s[k].toNat : Int)) := hg0
      have hl : (bs (hexs ((sb s).take k))).length ≤ 2 * s.size := by rw [bs_len, hexs_len]; simp; omega
      have c2 : ∀ a b : Int, (bs (hexs ((sb s).take k))).length + (bs [a, b]).length ≤ maxLen := fun a b => by simp only [bs_len, List.length_cons, List.length_nil] at *; unfold maxLen; omega
      have c3 : ∀ a b : Int, ((bs (hexs ((sb s).take k))).length + (bs [a, b]).length) * 1 ≤ 140737488355328 := fun a b => by simp only [bs_len, List.length_cons, List.length_nil] at *; omega
      have c4 : ∀ o, w.heap.size ≤ (wr.drew.alloc o).heap.size := fun o => by simp; omega
      have ho' : ∀ o, Own (wr.drew.alloc o) w.heap.size (wr.drew.alloc o).heap.size 5 _ (bs (hexs ((sb s).take k))) := fun o => Own.alloc (w := wr.drew) ho o
      clear hg0 hl
      go_wp2
      go_region_law (first | (refine step_app rfl (.tmp 12) (.tmp 23) 22 rfl 5 i0 (.int .u8 0) 1 Tryz.underlying22 hi hz0 hz1 hz2 rfl w.heap.size _ _ rfl (ho' _) _ rfl _ (Sl.two wr.drew _ _ _) (bs_one _) (c2 _ _) (c3 _ _) (c4 _) ?_; intro v3 w3 ho3 hb3))
      all_goals
        have hb4 : Below w.heap.size w w3 := (Below.alloc (w := wr.drew) (Below.drew hb) hsz _).trans hb3
        have ho4 : Own w3 w.heap.size w3.heap.size 5 v3 (bs (hexs ((sb s).take (k + 1)))) := by
          rw [take_snoc HG.out, hexs_app, hexs_one, bs_app, ← lit_get _ b1 b2 (by show _ < 16; omega), ← lit_get _ b3 b4 (by show _ < 16; omega)]
          exact ho3
        clear ho3 hb3 ho' c2 c3 c4 hm
        go_wp2
        go_roundw
        case rel => exact ⟨k + 1, by omega, by go_num, ho4, hb4⟩
        case measure => simp [intOf]; omega
    · rw [List.take_of_length_le (by rw [sb_len]; omega)] at ho
      have hconv := conv_sl ho.sl (hexs_byt _ (sb_byt s))
      go_wp2
      go_ret
      exact ⟨rfl, hb⟩

/-- a hex digit's number; below 0 where it is none -/
def undig (c : Int) : Int := if 48 ≤ c ∧ c ≤ 57 then c - 48 else if 97 ≤ c ∧ c ≤ 102 then c - 87 else -1
theorem undig_bd (c : Int) : -1 ≤ undig c ∧ undig c ≤ 15 := by unfold undig; split <;> (try split) <;> omega

/-- pairs of hex digits as bytes -/
def unhex : List Int → Option (List Int)
  | [] => some []
  | [_] => none
  | a :: b :: r => if undig a < 0 ∨ undig b < 0 then none else (unhex r).map fun l => (undig a * 16 + undig b) :: l

set_option maxRecDepth 1000000 in
set_option maxHeartbeats 1000000 in
theorem in_spec (w : World) (x a b : Int) : Calls Tryz.prog 59 #[.int .i64 x, .int .i64 a, .int .i64 b] w fun e w' => e = .returned (.bool (decide (a ≤ x ∧ x ≤ b))) ∧ w = w' := by
  by_cases h1 : a ≤ x
  · have hd1 : decide (a ≤ x) = true := by simpa using h1
    by_cases h2 : x ≤ b
    · have hd2 : decide (x ≤ b) = true := by simpa using h2
      go_enter Tryz.func59, Tryz.ntmps59
      go_wp2
      go_ret
      exact ⟨by simp [h1, h2], rfl⟩
    · have hd2 : decide (x ≤ b) = false := by simpa using h2
      go_enter Tryz.func59, Tryz.ntmps59
      go_wp2
      go_ret
      exact ⟨by simp [h1, h2], rfl⟩
  · have hd1 : decide (a ≤ x) = false := by simpa using h1
    go_enter Tryz.func59, Tryz.ntmps59
    go_wp2
    go_ret
    exact ⟨by simp [h1], rfl⟩

set_option maxRecDepth 1000000 in
set_option maxHeartbeats 1000000 in
theorem digit_spec (w : World) (c : Int) (h0 : 0 ≤ c) (h1 : c ≤ 255) : Calls Tryz.prog 71 #[.int .u8 c] w fun e w' => e = .returned (.int .i64 (undig c)) ∧ w = w' := by
  by_cases ha : 48 ≤ c ∧ c ≤ 57
  · have HU : Hid (undig c = c - 48) := by show _ = _; unfold undig; rw [if_pos ha]
    have hd : decide ((48 : Int) ≤ c ∧ c ≤ 57) = true := by simpa using ha
    go_enter Tryz.func71, Tryz.ntmps71
    go_wp2_with (go_at_call 59; refine (in_spec _ _ _ _).mono ?_; rintro e w' ⟨rfl, rfl⟩; try rw [hd])
    all_goals go_ret
    all_goals exact ⟨by rw [HU.out]; rfl, rfl⟩
  · have hd : decide ((48 : Int) ≤ c ∧ c ≤ 57) = false := by simpa using ha
    by_cases hb : 97 ≤ c ∧ c ≤ 102
    · have HU : Hid (undig c = c - 97 + 10) := by show _ = _; unfold undig; rw [if_neg ha, if_pos hb]; omega
      have hd2 : decide ((97 : Int) ≤ c ∧ c ≤ 102) = true := by simpa using hb
      go_enter Tryz.func71, Tryz.ntmps71
      go_wp2_with (go_at_call 59; refine (in_spec _ _ _ _).mono ?_; rintro e w' ⟨rfl, rfl⟩; first | rw [hd] | rw [hd2])
      all_goals go_ret
      all_goals exact ⟨by rw [HU.out]; rfl, rfl⟩
    · have HU : Hid (undig c = -1) := by show _ = _; unfold undig; rw [if_neg ha, if_neg hb]
      have hd2 : decide ((97 : Int) ≤ c ∧ c ≤ 102) = false := by simpa using hb
      go_enter Tryz.func71, Tryz.ntmps71
      go_wp2_with (go_at_call 59; refine (in_spec _ _ _ _).mono ?_; rintro e w' ⟨rfl, rfl⟩; first | rw [hd] | rw [hd2])
      all_goals go_ret
      all_goals exact ⟨by rw [HU.out]; rfl, rfl⟩

/-- What UnHex answers. -/
def unHex (s : ByteArray) : ByteArray × Bool := match unhex (sb s) with
  | some l => (Plain.txt l, true)
  | none => (⟨#[]⟩, false)
theorem unHex_none {s : ByteArray} (h : unhex (sb s) = none) : unHex s = (⟨#[]⟩, false) := by unfold unHex; rw [h]
theorem unHex_some {s : ByteArray} {l : List Int} (h : unhex (sb s) = some l) : unHex s = (Plain.txt l, true) := by unfold unHex; rw [h]

theorem unhex_bad {a b : Int} {r : List Int} (h : undig a < 0 ∨ undig b < 0) : unhex (a :: b :: r) = none := by rw [unhex, if_pos h]
theorem unhex_good {a b : Int} {r : List Int} (h : ¬ (undig a < 0 ∨ undig b < 0)) : unhex (a :: b :: r) = (unhex r).map fun l => (undig a * 16 + undig b) :: l := by rw [unhex, if_neg h]

theorem drop_two {l : List Int} {k : Nat} {a b : Int} (h1 : l[k]? = some a) (h2 : l[k + 1]? = some b) : l.drop k = a :: b :: l.drop (k + 2) := by
  obtain ⟨hk, rfl⟩ := List.getElem?_eq_some_iff.1 h1
  obtain ⟨hk2, rfl⟩ := List.getElem?_eq_some_iff.1 h2
  rw [List.drop_eq_getElem_cons hk, List.drop_eq_getElem_cons hk2]

theorem ret2 {s s' : ByteArray} {c c' : Bool} (h1 : s = s') (h2 : c = c') : Ending.returned (.tuple #[.string s, .bool c]) = .returned (.tuple #[.string s', .bool c']) := by rw [h1, h2]

set_option maxRecDepth 1000000 in
set_option maxHeartbeats 1000000 in
theorem unhex_spec (w : World) (s : ByteArray) (hs : s.size ≤ 10000000000000) :
    Calls Tryz.prog 41 #[.string s] w fun e w' => e = .returned (.tuple #[.string (unHex s).1, .bool (unHex s).2]) ∧ Below w.heap.size w w' := by
  obtain ⟨i0, hi, hz0, hz1, hz2⟩ := info_parts info5
  have ho0 := Own.emptyB w w.heap.size (Nat.le_refl _)
  have hb0 : Below w.heap.size w (w.alloc (.cells #[] 5)) := (Below.refl _ _).alloc (Nat.le_refl _) _
  go_enter Tryz.func41, Tryz.ntmps41
  go_wp2
  go_loopw [4, 5] (fun b i wr => ∃ (k : Nat) (acc : List Int), 2 * k ≤ s.size ∧ i = .int .i64 (2 * (k : Int)) ∧ acc.length = k ∧ Byt acc ∧ unhex (sb s) = (unhex ((sb s).drop (2 * k))).map (fun l => acc ++ l) ∧ Own wr w.heap.size wr.heap.size 5 b (bs acc) ∧ Below w.heap.size w wr) (fun _ i _ => s.size + 2 - (intOf i).toNat)
  case atStart => exact ⟨0, [], by omega, rfl, rfl, fun x hx => (by cases hx), by simp, ho0, hb0⟩
  case round =>
    obtain ⟨k, acc, hk, rfl, hacc, hab, hE0, ho, hb⟩ := hrel
    have HE : Hid (acc.length = k ∧ Byt acc ∧ unhex (sb s) = (unhex ((sb s).drop (2 * k))).map (fun l => acc ++ l)) := ⟨hacc, hab, hE0⟩
    have hsz := hb.size
    clear ho0 hb0 hacc hab hE0
    by_cases hlt : 2 * k + 1 < s.size
    · have h2k : 2 * k < s.size := by omega
      have hg1 := sb_get s (2 * k) h2k
      have hg2 := sb_get s (2 * k + 1) hlt
      have hc1 := (sb_byt s).at hg1
      have hc2 := (sb_byt s).at hg2
      have HD : Hid ((sb s).drop (2 * k) = _) := drop_two hg1 hg2
      clear hg1 hg2
      have bd1 := undig_bd (s[2 * k].toNat : Int)
      have bd2 := undig_bd (s[2 * k + 1].toNat : Int)
      by_cases hbad : undig (s[2 * k].toNat : Int) < 0 ∨ undig (s[2 * k + 1].toNat : Int) < 0
      · have HG : Hid (unHex s = (⟨#[]⟩, false)) := unHex_none (by rw [HE.out.2.2, HD.out, unhex_bad hbad]; rfl)
        clear HE HD
        by_cases hb1 : undig (s[2 * k].toNat : Int) < 0
        · go_wp2_with (go_at_call 71; refine (digit_spec _ _ ?_ ?_).mono ?_; (first | exact hc1.1 | exact hc2.1); (first | exact hc1.2 | exact hc2.2); rintro e w' ⟨rfl, rfl⟩)
          all_goals go_ret2
          all_goals exact ⟨by rw [HG.out]; rfl, hb⟩
        · have hb2 : undig (s[2 * k + 1].toNat : Int) < 0 := by rcases hbad with h | h; exact absurd h hb1; exact h
          go_wp2_with (go_at_call 71; refine (digit_spec _ _ ?_ ?_).mono ?_; (first | exact hc1.1 | exact hc2.1); (first | exact hc1.2 | exact hc2.2); rintro e w' ⟨rfl, rfl⟩)
          all_goals go_ret2
          all_goals exact ⟨by rw [HG.out]; rfl, hb⟩
      · obtain ⟨da, hda⟩ : ∃ d, undig (s[2 * k].toNat : Int) = d := ⟨_, rfl⟩
        obtain ⟨db, hdb⟩ : ∃ d, undig (s[2 * k + 1].toNat : Int) = d := ⟨_, rfl⟩
        have hdig1 := digit_spec wr (s[2 * k].toNat : Int) hc1.1 hc1.2
        have hdig2 := digit_spec wr (s[2 * k + 1].toNat : Int) hc2.1 hc2.2
        have HN : Hid ((acc ++ [da * 16 + db]).length = k + 1 ∧ Byt (acc ++ [da * 16 + db]) ∧ unhex (sb s) = (unhex ((sb s).drop (2 * (k + 1)))).map (fun l => (acc ++ [da * 16 + db]) ++ l)) := by
          refine ⟨by rw [List.length_append, HE.out.1]; rfl, HE.out.2.1.app (fun x hx => by rw [List.mem_singleton] at hx; omega), ?_⟩
          rw [HE.out.2.2, HD.out, unhex_good hbad, hda, hdb, show 2 * (k + 1) = 2 * k + 2 by omega, Option.map_map]
          simp [Function.comp_def]
        rw [hda] at hdig1 bd1 hbad
        rw [hdb] at hdig2 bd2 hbad
        have hl : (bs acc).length = k := by rw [bs_len]; exact HE.out.1
        have c2 : (bs acc).length + 1 ≤ maxLen := by rw [hl]; unfold maxLen; omega
        have c3 : ((bs acc).length + 1) * 1 ≤ 140737488355328 := by rw [hl]; omega
        have c4 : ∀ o, w.heap.size ≤ (wr.alloc o).heap.size := fun o => by simp; omega
        have hna : ¬ da < 0 := fun h => hbad (.inl h)
        have hnb : ¬ db < 0 := fun h => hbad (.inr h)
        have hdd1 : decide (da < 0) = false := by simpa using hna
        clear hl HE HD hda hdb hbad
        go_wp2_with fail
        refine hdig1.mono ?_
        rintro e w' ⟨rfl, rfl⟩
        go_wp2_with fail
        refine hdig2.mono ?_
        rintro e w' ⟨rfl, rfl⟩
        clear hdig1 hdig2
        go_wp2_with (first | (at_builtin; go_must (refine wpl_app _ rfl (.tmp 31) (.tmp 37) 22 rfl 5 i0 (.int .u8 0) 1 Tryz.underlying22 hi hz0 hz1 hz2 rfl w.heap.size _ (bs acc) rfl (ho.alloc _) _ rfl [.int .u8 (da * 16 + db)] (Sl.one _ _ _) (one_byte _) c2 c3 (c4 _) ?_); intro v3 w3 ho3 hb3 hg3))
        have hb4 : Below w.heap.size w w3 := (hb.alloc hsz _).trans hb3
        have ho4 : Own w3 w.heap.size w3.heap.size 5 v3 (bs (acc ++ [da * 16 + db])) := by rw [bs_app]; exact ho3
        go_roundw
        case rel => exact ⟨k + 1, acc ++ [da * 16 + db], by omega, by go_num, HN.out.1, HN.out.2.1, HN.out.2.2, ho4, hb4⟩
        case measure => simp [intOf]; omega
    · by_cases hodd : s.size % 2 = 1
      · have HG : Hid (unHex s = (⟨#[]⟩, false)) := by
          have hlast : (sb s).drop (2 * k) = [((s[2 * k]'(by omega)).toNat : Int)] := by
            have hg := sb_get s (2 * k) (by omega)
            obtain ⟨h1, h2⟩ := List.getElem?_eq_some_iff.1 hg
            rw [List.drop_eq_getElem_cons h1, h2, List.drop_eq_nil_of_le (by rw [sb_len]; omega)]
          exact unHex_none (by rw [HE.out.2.2, hlast]; rfl)
        have hd : ((s.size : Int) % 2 == 1) = true := by simp; omega
        clear HE
        go_wp2
        go_ret2
        exact ⟨by rw [HG.out]; rfl, hb⟩
      · have HG : Hid (unHex s = (Plain.txt acc, true)) := unHex_some (by rw [HE.out.2.2, List.drop_eq_nil_of_le (by rw [sb_len]; omega)]; simp [unhex])
        have hd : ((s.size : Int) % 2 == 1) = false := by simp; omega
        have hconv := conv_sl ho.sl HE.out.2.1
        clear HE
        go_wp2
        go_ret2
        exact ⟨by rw [HG.out]; rfl, hb⟩

end Go.Proofs.YtbopliahafkecaaGreatDoor.Sha

/- Chapter 3, the specification's side: digits, numbers, parts of a text, as plain functions of lists of bytes. -/
namespace Go.Proofs.YtbopliahafkecaaGreatDoor.Ver
open Go.RowKit Go.Proofs.YtbopliahafkecaaGreatDoor.Mem Go.Proofs.YtbopliahafkecaaGreatDoor.Laws Go.Proofs.YtbopliahafkecaaGreatDoor.Bytes Go.Proofs.YtbopliahafkecaaGreatDoor.Sha
set_option linter.unusedVariables false
set_option linter.unusedSimpArgs false

/-- a digit -/
def isd (c : Int) : Bool := decide (48 ≤ c ∧ c ≤ 57)
/-- digits alone, and one at least -/
def digs (l : List Int) : Bool := l.all isd && !l.isEmpty
def numv (l : List Int) : Int := l.foldl (fun n c => n * 10 + (c - 48)) 0
/-- a number of at most eight digits without a needless nought; below 0: it is none -/
def number (l : List Int) : Int := if digs l = false ∨ 8 < l.length ∨ (1 < l.length ∧ l.head? = some 48) then -1 else numv l
/-- a sign of a part -/
def psign (c : Int) : Bool := decide (97 ≤ c ∧ c ≤ 122) || decide (65 ≤ c ∧ c ≤ 90) || decide (48 ≤ c ∧ c ≤ 57) || decide (c = 45)
def part (l : List Int) : Bool := l.all psign && decide (1 ≤ l.length ∧ l.length ≤ 8) && (!digs l || decide (0 ≤ number l))

theorem all_take {p : Int → Bool} {l : List Int} {k : Nat} {c : Int} (h : (l.take k).all p = true) (hc : l[k]? = some c) (hp : p c = true) : (l.take (k + 1)).all p = true := by
  rw [take_snoc hc, List.all_append, h]
  simp [hp]
theorem all_bad {p : Int → Bool} {l : List Int} {k : Nat} {c : Int} (hc : l[k]? = some c) (hp : p c = false) : l.all p = false := by
  rw [List.all_eq_false]
  exact ⟨c, List.mem_of_getElem? hc, by simp [hp]⟩

theorem loop_nil (s : ByteArray) (h : s.size = 0) : s.toList = [] := by
  unfold ByteArray.toList
  unfold ByteArray.toList.loop
  simp [h]
theorem loop_ge (s : ByteArray) (n : Nat) : ∀ i r, s.size - i = n → r ≠ [] → ByteArray.toList.loop s i r ≠ [] := by
  induction n with
  | zero => intro i r h hr; unfold ByteArray.toList.loop; rw [if_neg (by omega)]; simpa using hr
  | succ n ih => intro i r h hr; unfold ByteArray.toList.loop; rw [if_pos (by omega)]; exact ih _ _ (by omega) (by simp)
theorem loop_pos (s : ByteArray) (h : 0 < s.size) : s.toList ≠ [] := by
  unfold ByteArray.toList
  unfold ByteArray.toList.loop
  rw [if_pos (by omega)]
  exact loop_ge s _ _ _ rfl (by simp)
theorem toList_empty (s : ByteArray) : s.toList.isEmpty = decide (s.size = 0) := by
  by_cases h : s.size = 0
  · rw [loop_nil s h]; simp [h]
  · have := loop_pos s (by omega)
    rw [List.isEmpty_eq_false_iff.2 this]
    simp [h]
theorem sb_empty (s : ByteArray) : (sb s).isEmpty = decide (s.size = 0) := by
  have h := sb_len s
  cases hb : sb s with
  | nil => rw [hb] at h; simp at h; simp [← h]
  | cons x r =>
    rw [hb] at h
    simp only [List.length_cons] at h
    rw [decide_eq_false (by omega)]
    rfl

set_option maxRecDepth 1000000 in
set_option maxHeartbeats 1000000 in
theorem digits_spec (w : World) (s : ByteArray) (hs : s.size ≤ 10000000000000) : Calls Tryz.prog 72 #[.string s] w fun e w' => e = .returned (.bool (digs (sb s))) ∧ w = w' := by
  go_enter Tryz.func72, Tryz.ntmps72
  go_wp2
  go_loopw [3] (fun i wr => ∃ k : Nat, k ≤ s.size ∧ i = .int .i64 (k : Int) ∧ Hid (((sb s).take k).all isd = true) ∧ w = wr) (fun i _ => s.size - (intOf i).toNat)
  case atStart => exact ⟨0, Nat.zero_le _, rfl, rfl, rfl⟩
  case round =>
    obtain ⟨k, hk, rfl, HA, rfl⟩ := hrel
    by_cases hlt : k < s.size
    · have hg := sb_get s k hlt
      have hcb := (sb_byt s).at hg
      have HG : Hid ((sb s)[k]? = some (s[k].toNat : Int)) := hg
      clear hg
      by_cases hd : isd (s[k].toNat : Int) = true
      · have hd' : decide ((48 : Int) ≤ (s[k].toNat : Int) ∧ (s[k].toNat : Int) ≤ 57) = true := hd
        have HN : Hid (((sb s).take (k + 1)).all isd = true) := all_take HA.out HG.out hd
        clear hd
        go_wp2_with (go_at_call 59; refine (in_spec _ _ _ _).mono ?_; rintro e w' ⟨rfl, rfl⟩; rw [hd'])
        go_roundw
        case rel => exact ⟨k + 1, by omega, by go_num, HN, by first | rfl | trivial⟩
        case measure => simp [intOf]; omega
      · have hd0 : isd (s[k].toNat : Int) = false := by simpa using hd
        have hd' : decide ((48 : Int) ≤ (s[k].toNat : Int) ∧ (s[k].toNat : Int) ≤ 57) = false := hd0
        have HN : Hid (digs (sb s) = false) := by show _ = _; unfold digs; rw [all_bad HG.out hd0]; rfl
        clear hd hd0
        go_wp2_with (go_at_call 59; refine (in_spec _ _ _ _).mono ?_; rintro e w' ⟨rfl, rfl⟩; rw [hd'])
        go_ret
        exact ⟨by rw [HN.out]; rfl, rfl⟩
    · have HN : Hid (digs (sb s) = !(sb s).isEmpty) := by
        show _ = _
        have h1 := HA.out
        rw [List.take_of_length_le (by rw [sb_len]; omega)] at h1
        unfold digs
        rw [h1]
        rfl
      by_cases h0 : s.size = 0
      · have he : s.toList.isEmpty = true := by rw [toList_empty]; simp [h0]
        have HM : Hid (digs (sb s) = false) := by show _ = _; rw [HN.out, sb_empty]; simp [h0]
        go_wp2
        go_ret
        exact ⟨by rw [HM.out]; rfl, rfl⟩
      · have he : s.toList.isEmpty = false := by rw [toList_empty]; simp [h0]
        have HM : Hid (digs (sb s) = true) := by show _ = _; rw [HN.out, sb_empty]; simp [h0]
        go_wp2
        go_ret
        exact ⟨by rw [HM.out]; rfl, rfl⟩

theorem or4 {b1 b2 b3 : Bool} {p : Prop} [Decidable p] (h : false = (b1 || b2 || b3 || decide p)) : b1 = false ∧ b2 = false ∧ b3 = false ∧ ¬ p := by
  cases b1 <;> cases b2 <;> cases b3 <;> simp_all

theorem numv_snoc (l : List Int) (c : Int) : numv (l ++ [c]) = numv l * 10 + (c - 48) := by simp [numv]
theorem numv_bd (n : Nat) : ∀ l : List Int, l.length ≤ n → l.all isd = true → 0 ≤ numv l ∧ numv l < 10 ^ n := by
  induction n with
  | zero => intro l h _; have : l = [] := List.eq_nil_of_length_eq_zero (by omega); subst this; simp [numv]
  | succ n ih =>
    intro l h ha
    rcases List.eq_nil_or_concat l with rfl | ⟨r, c, rfl⟩
    · have : (0 : Int) < 10 ^ (n + 1) := Int.pow_pos (by decide)
      exact ⟨by simp [numv], by simpa [numv] using this⟩
    · rw [List.concat_eq_append] at *
      rw [List.all_append, Bool.and_eq_true] at ha
      have hr := ih r (by simp at h; omega) ha.1
      have hc : 48 ≤ c ∧ c ≤ 57 := by have := ha.2; simp [isd] at this; exact this
      rw [numv_snoc, Int.pow_succ]
      omega

set_option maxRecDepth 1000000 in
set_option maxHeartbeats 1000000 in
theorem number_spec (w : World) (s : ByteArray) (hs : s.size ≤ 10000000000000) : Calls Tryz.prog 42 #[.string s] w fun e w' => e = .returned (.int .i64 (number (sb s))) ∧ w = w' := by
  have q : ∀ w, _ := fun w => digits_spec w s hs
  obtain ⟨dg, hdg⟩ : ∃ d, digs (sb s) = d := ⟨_, rfl⟩
  rw [hdg] at q
  by_cases hbad : digs (sb s) = false ∨ 8 < (sb s).length ∨ (1 < (sb s).length ∧ (sb s).head? = some 48)
  · have HN : Hid (number (sb s) = -1) := by show _ = _; unfold number; rw [if_pos hbad]
    rw [hdg, sb_len] at hbad
    by_cases h1 : dg = false
    · subst h1
      go_enter Tryz.func42, Tryz.ntmps42
      go_wp2_with (go_at_call 72; refine (q _).mono ?_; rintro e w' ⟨rfl, rfl⟩)
      go_ret
      exact ⟨by rw [HN.out]; rfl, rfl⟩
    · have h1' : dg = true := by simpa using h1
      subst h1'
      by_cases h2 : 8 < s.size
      · have hd2 : decide (8 < (s.size : Int)) = true := by simp; omega
        go_enter Tryz.func42, Tryz.ntmps42
        go_wp2_with (go_at_call 72; refine (q _).mono ?_; rintro e w' ⟨rfl, rfl⟩)
        go_ret
        exact ⟨by rw [HN.out]; rfl, rfl⟩
      · have h3 : 1 < s.size ∧ (sb s).head? = some 48 := by rcases hbad with h | h | h; cases h; exact absurd h h2; exact h
        have hd2 : decide (8 < (s.size : Int)) = false := by simp; omega
        have hd3 : decide (1 < (s.size : Int)) = true := by simp; omega
        have h0 : 0 < s.size := by omega
        have hg := sb_get s 0 h0
        have hc : (s[0].toNat : Int) = 48 := by
          rw [← List.head?_eq_getElem?] at hg
          rw [h3.2] at hg
          simpa using hg.symm
        have hd4 : ((s[0].toNat : Int) == 48) = true := by simpa using hc
        clear hg hbad
        go_enter Tryz.func42, Tryz.ntmps42
        go_wp2_with (go_at_call 72; refine (q _).mono ?_; rintro e w' ⟨rfl, rfl⟩)
        go_ret
        exact ⟨by rw [HN.out]; rfl, rfl⟩
  · have HN : Hid (number (sb s) = numv (sb s)) := by show _ = _; unfold number; rw [if_neg hbad]
    have hdt : digs (sb s) = true := by
      cases h : digs (sb s) with
      | true => rfl
      | false => exact absurd (.inl h) hbad
    have h2 : ¬ 8 < s.size := fun h => hbad (.inr (.inl (by rw [sb_len]; exact h)))
    have HA : Hid ((sb s).all isd = true) := by have := hdt; unfold digs at this; rw [Bool.and_eq_true] at this; exact this.1
    have h1 : dg = true := by rw [← hdg]; exact hdt
    subst h1
    have hd2 : decide (8 < (s.size : Int)) = false := by simp; omega
    have h0 : 0 < s.size := by
      rcases Nat.eq_zero_or_pos s.size with h | h
      · exfalso
        have h4 := hdt
        unfold digs at h4
        rw [sb_empty, decide_eq_true h] at h4
        simp at h4
      · exact h
    have HB : Hid (∀ k, k ≤ 8 → 0 ≤ numv ((sb s).take k) ∧ numv ((sb s).take k) < 10 ^ 8) := fun k hk => by
      have h := numv_bd 8 ((sb s).take k) (by simp; omega) (List.all_eq_true.2 fun x hx => List.all_eq_true.1 HA.out x (List.mem_of_mem_take hx))
      exact h
    by_cases h3 : 1 < s.size
    · have hd3 : decide (1 < (s.size : Int)) = true := by simp; omega
      have hg := sb_get s 0 h0
      have hc : ¬ (s[0].toNat : Int) = 48 := fun hc => hbad (.inr (.inr ⟨by rw [sb_len]; exact h3, by rw [List.head?_eq_getElem?, hg, hc]⟩))
      have hd4 : ((s[0].toNat : Int) == 48) = false := by simpa using hc
      clear hg hc hbad hdg hdt
      go_enter Tryz.func42, Tryz.ntmps42
      go_wp2_with (go_at_call 72; refine (q _).mono ?_; rintro e w' ⟨rfl, rfl⟩)
      go_loopw [3, 4] (fun n i wr => ∃ k : Nat, k ≤ s.size ∧ i = .int .i64 (k : Int) ∧ n = .int .i64 (numv ((sb s).take k)) ∧ w = wr) (fun _ i _ => s.size - (intOf i).toNat)
      case atStart => exact ⟨0, Nat.zero_le _, rfl, rfl, by first | rfl | trivial⟩
      case round =>
        obtain ⟨k, hk, rfl, rfl, rfl⟩ := hrel
        clear q
        by_cases hlt : k < s.size
        · have hg := sb_get s k hlt
          have hcb : 48 ≤ (s[k].toNat : Int) ∧ (s[k].toNat : Int) ≤ 57 := by
            have := List.all_eq_true.1 HA.out _ (List.mem_of_getElem? hg)
            simpa [isd] using this
          have HX : Hid (numv ((sb s).take (k + 1)) = numv ((sb s).take k) * 10 + ((s[k].toNat : Int) - 48)) := by
            show _ = _; rw [take_snoc hg, numv_snoc]
          have hb := HB.out k (by omega)
          obtain ⟨n, hn⟩ : ∃ n, numv ((sb s).take k) = n := ⟨_, rfl⟩
          rw [hn] at HX hb ⊢
          have hb2 : n < 100000000 := hb.2
          have hb1 := hb.1
          clear hg hb hn
          go_wp2
          go_roundw
          case rel => exact ⟨k + 1, by omega, by go_num, by rw [HX.out], by first | rfl | trivial⟩
          case measure => simp [intOf]; omega
        · rw [List.take_of_length_le (by rw [sb_len]; omega)]
          go_wp2
          go_ret
          exact ⟨by rw [HN.out]; rfl, rfl⟩
    · have hd3 : decide (1 < (s.size : Int)) = false := by simp; omega
      clear hbad hdg hdt
      go_enter Tryz.func42, Tryz.ntmps42
      go_wp2_with (go_at_call 72; refine (q _).mono ?_; rintro e w' ⟨rfl, rfl⟩)
      go_loopw [3, 4] (fun n i wr => ∃ k : Nat, k ≤ s.size ∧ i = .int .i64 (k : Int) ∧ n = .int .i64 (numv ((sb s).take k)) ∧ w = wr) (fun _ i _ => s.size - (intOf i).toNat)
      case atStart => exact ⟨0, Nat.zero_le _, rfl, rfl, by first | rfl | trivial⟩
      case round =>
        obtain ⟨k, hk, rfl, rfl, rfl⟩ := hrel
        clear q
        by_cases hlt : k < s.size
        · have hg := sb_get s k hlt
          have hcb : 48 ≤ (s[k].toNat : Int) ∧ (s[k].toNat : Int) ≤ 57 := by
            have := List.all_eq_true.1 HA.out _ (List.mem_of_getElem? hg)
            simpa [isd] using this
          have HX : Hid (numv ((sb s).take (k + 1)) = numv ((sb s).take k) * 10 + ((s[k].toNat : Int) - 48)) := by
            show _ = _; rw [take_snoc hg, numv_snoc]
          have hb := HB.out k (by omega)
          obtain ⟨n, hn⟩ : ∃ n, numv ((sb s).take k) = n := ⟨_, rfl⟩
          rw [hn] at HX hb ⊢
          have hb2 : n < 100000000 := hb.2
          have hb1 := hb.1
          clear hg hb hn
          go_wp2
          go_roundw
          case rel => exact ⟨k + 1, by omega, by go_num, by rw [HX.out], by first | rfl | trivial⟩
          case measure => simp [intOf]; omega
        · rw [List.take_of_length_le (by rw [sb_len]; omega)]
          go_wp2
          go_ret
          exact ⟨by rw [HN.out]; rfl, rfl⟩

set_option maxRecDepth 1000000 in
set_option maxHeartbeats 1000000 in
theorem part_spec (w : World) (s : ByteArray) (hs : s.size ≤ 10000000000000) : Calls Tryz.prog 131 #[.string s] w fun e w' => e = .returned (.bool (part (sb s))) ∧ w = w' := by
  have q : ∀ w, _ := fun w => digits_spec w s hs
  have p : ∀ w, _ := fun w => number_spec w s hs
  obtain ⟨dg, hdg⟩ : ∃ d, digs (sb s) = d := ⟨_, rfl⟩
  obtain ⟨nm, hnm⟩ : ∃ d, number (sb s) = d := ⟨_, rfl⟩
  rw [hdg] at q
  rw [hnm] at p
  have HD : Hid (digs (sb s) = dg ∧ number (sb s) = nm) := ⟨hdg, hnm⟩
  clear hdg hnm
  go_enter Tryz.func131, Tryz.ntmps131
  go_wp2
  go_loopw [3] (fun i wr => ∃ k : Nat, k ≤ s.size ∧ i = .int .i64 (k : Int) ∧ Hid (((sb s).take k).all psign = true) ∧ w = wr) (fun i _ => s.size - (intOf i).toNat)
  case atStart => exact ⟨0, Nat.zero_le _, rfl, rfl, rfl⟩
  case round =>
    obtain ⟨k, hk, rfl, HA, rfl⟩ := hrel
    by_cases hlt : k < s.size
    · have hg := sb_get s k hlt
      have hcb := (sb_byt s).at hg
      have HG : Hid ((sb s)[k]? = some (s[k].toNat : Int)) := hg
      clear hg q p
      obtain ⟨b1, e1⟩ : ∃ b, decide ((97 : Int) ≤ (s[k].toNat : Int) ∧ (s[k].toNat : Int) ≤ 122) = b := ⟨_, rfl⟩
      obtain ⟨b2, e2⟩ : ∃ b, decide ((65 : Int) ≤ (s[k].toNat : Int) ∧ (s[k].toNat : Int) ≤ 90) = b := ⟨_, rfl⟩
      obtain ⟨b3, e3⟩ : ∃ b, decide ((48 : Int) ≤ (s[k].toNat : Int) ∧ (s[k].toNat : Int) ≤ 57) = b := ⟨_, rfl⟩
      have HP : Hid (psign (s[k].toNat : Int) = (b1 || b2 || b3 || decide ((s[k].toNat : Int) = 45))) := by show _ = _; unfold psign; rw [e1, e2, e3]
      by_cases hd : psign (s[k].toNat : Int) = true
      · have HN : Hid (((sb s).take (k + 1)).all psign = true) := all_take HA.out HG.out hd
        clear hd
        cases b1
        · cases b2
          · cases b3
            · have hd4 : ((s[k].toNat : Int) != 45) = false := by
                have := HP.out
                have h2 : psign (s[k].toNat : Int) = true := by
                  have := List.all_eq_true.1 HN.out _ (by rw [take_snoc HG.out]; exact List.mem_append_right _ (List.mem_singleton.2 rfl))
                  exact this
                rw [h2] at this
                simp at this
                simp [this]
              go_wp2_with (go_at_call 59; refine (in_spec _ _ _ _).mono ?_; rintro e w' ⟨rfl, rfl⟩; first | rw [e1] | rw [e2] | rw [e3])
              go_roundw
              case rel => exact ⟨k + 1, by omega, by go_num, HN, by first | rfl | trivial⟩
              case measure => simp [intOf]; omega
            · go_wp2_with (go_at_call 59; refine (in_spec _ _ _ _).mono ?_; rintro e w' ⟨rfl, rfl⟩; first | rw [e1] | rw [e2] | rw [e3])
              go_roundw
              case rel => exact ⟨k + 1, by omega, by go_num, HN, by first | rfl | trivial⟩
              case measure => simp [intOf]; omega
          · go_wp2_with (go_at_call 59; refine (in_spec _ _ _ _).mono ?_; rintro e w' ⟨rfl, rfl⟩; first | rw [e1] | rw [e2] | rw [e3])
            go_roundw
            case rel => exact ⟨k + 1, by omega, by go_num, HN, by first | rfl | trivial⟩
            case measure => simp [intOf]; omega
        · go_wp2_with (go_at_call 59; refine (in_spec _ _ _ _).mono ?_; rintro e w' ⟨rfl, rfl⟩; first | rw [e1] | rw [e2] | rw [e3])
          go_roundw
          case rel => exact ⟨k + 1, by omega, by go_num, HN, by first | rfl | trivial⟩
          case measure => simp [intOf]; omega
      · have hd0 : psign (s[k].toNat : Int) = false := by simpa using hd
        have HN : Hid (part (sb s) = false) := by show _ = _; unfold part; rw [all_bad HG.out hd0]; rfl
        have h5 := HP.out
        rw [hd0] at h5
        obtain ⟨rfl, rfl, rfl, h7⟩ := or4 h5
        have hd4 : ((s[k].toNat : Int) != 45) = true := by rw [bne_iff_ne]; exact h7
        clear hd hd0 h5 h7
        go_wp2_with (go_at_call 59; refine (in_spec _ _ _ _).mono ?_; rintro e w' ⟨rfl, rfl⟩; first | rw [e1] | rw [e2] | rw [e3])
        go_ret
        exact ⟨by rw [HN.out]; rfl, rfl⟩
    · have h1 := HA.out
      rw [List.take_of_length_le (by rw [sb_len]; omega)] at h1
      obtain ⟨b1, e1⟩ : ∃ b, decide ((1 : Int) ≤ (s.size : Int) ∧ (s.size : Int) ≤ 8) = b := ⟨_, rfl⟩
      have HP : Hid (part (sb s) = (b1 && (!dg || decide (0 ≤ nm)))) := by
        show _ = _
        unfold part
        have e5 : decide (1 ≤ s.size ∧ s.size ≤ 8) = decide ((1 : Int) ≤ (s.size : Int) ∧ (s.size : Int) ≤ 8) := decide_eq_decide.2 (by omega)
        rw [h1, HD.out.1, HD.out.2, sb_len, e5, e1]
        rfl
      clear h1
      cases b1
      · go_wp2_with (go_at_call 59; refine (in_spec _ _ _ _).mono ?_; rintro e w' ⟨rfl, rfl⟩; rw [e1])
        go_ret
        exact ⟨by rw [HP.out]; rfl, rfl⟩
      · cases dg
        · go_wp2_with (first | (go_at_call 59; refine (in_spec _ _ _ _).mono ?_; rintro e w' ⟨rfl, rfl⟩; rw [e1]) | (go_at_call 72; refine (q _).mono ?_; rintro e w' ⟨rfl, rfl⟩) | (go_at_call 42; refine (p _).mono ?_; rintro e w' ⟨rfl, rfl⟩))
          go_ret
          exact ⟨by rw [HP.out]; rfl, rfl⟩
        · go_wp2_with (first | (go_at_call 59; refine (in_spec _ _ _ _).mono ?_; rintro e w' ⟨rfl, rfl⟩; rw [e1]) | (go_at_call 72; refine (q _).mono ?_; rintro e w' ⟨rfl, rfl⟩) | (go_at_call 42; refine (p _).mono ?_; rintro e w' ⟨rfl, rfl⟩))
          go_ret
          exact ⟨by rw [HP.out]; rfl, rfl⟩

end Go.Proofs.YtbopliahafkecaaGreatDoor.Ver

/- Chapter 3, the specification's side: a text's parts; what stands behind a version; versions that are right. -/
namespace Go.Proofs.YtbopliahafkecaaGreatDoor.Ver
open Go.RowKit Go.Proofs.YtbopliahafkecaaGreatDoor.Mem Go.Proofs.YtbopliahafkecaaGreatDoor.Laws Go.Proofs.YtbopliahafkecaaGreatDoor.Bytes Go.Proofs.YtbopliahafkecaaGreatDoor.Sha
set_option linter.unusedVariables false
set_option linter.unusedSimpArgs false

theorem info9v : (Tryz.prog.info? 9).map (fun i => (i.zero, i.size, i.bytes)) = some (some (.string ⟨#[]⟩), 1, 16) := by kernel_rfl
theorem one_strv (s : ByteArray) : ∀ u ∈ [Value.string s], u.oneCell' = true := by
  intro u hu
  rw [List.mem_singleton] at hu
  rw [hu]
  rfl
theorem emptySv (w : World) (lo : Nat) (h : lo ≤ w.heap.size) : Own (w.alloc (.cells #[] 9)) lo (w.alloc (.cells #[] 9)).heap.size 9 (.slice (some ⟨w.heap.size, 0, none⟩) 0 0) (ss []) :=
  Own.of (World.ownsRow_lit w #[] 0 h (Nat.zero_le _) rfl)

/-- the parts of a text, with a sign between -/
def splitL (b : Int) : List Int → List Int → List (List Int)
  | cur, [] => [cur]
  | cur, c :: r => if c = b then cur :: splitL b [] r else splitL b (cur ++ [c]) r
def split (b : Int) (l : List Int) : List (List Int) := splitL b [] l
def splitT (b : Int) (s : ByteArray) : List ByteArray := (split b (sb s)).map Plain.txt

theorem splitL_len (b : Int) : ∀ (l cur : List Int), (splitL b cur l).length ≤ l.length + 1 := by
  intro l
  induction l with
  | nil => intro cur; simp [splitL]
  | cons c r ih =>
    intro cur
    unfold splitL
    split
    · have := ih []; simp only [List.length_cons]; omega
    · have := ih (cur ++ [c]); simp only [List.length_cons]; omega
theorem splitT_len (b : Int) (s : ByteArray) : (splitT b s).length ≤ s.size + 1 := by
  unfold splitT split
  rw [List.length_map]
  have := splitL_len b (sb s) []
  rw [sb_len] at this
  exact this

theorem u8s_sb (s : ByteArray) : Plain.u8s (sb s) = s.data.toList := by
  unfold Plain.u8s sb
  rw [List.map_map]
  conv => rhs; rw [← List.map_id s.data.toList]
  apply List.map_congr_left
  intro b _
  simp
theorem ext_txt (s : ByteArray) (f k : Nat) : s.extract f k = Plain.txt (((sb s).drop f).take (k - f)) := by
  apply ByteArray.ext
  apply Array.ext'
  rw [ByteArray.data_extract, Array.toList_extract]
  show _ = Plain.u8s (((sb s).drop f).take (k - f))
  have h : Plain.u8s (((sb s).drop f).take (k - f)) = ((Plain.u8s (sb s)).drop f).take (k - f) := by
    unfold Plain.u8s
    rw [← List.map_drop, ← List.map_take]
  rw [h, u8s_sb]

theorem cur_snoc {l : List Int} {f k : Nat} {c : Int} (hf : f ≤ k) (hc : l[k]? = some c) : (l.drop f).take (k + 1 - f) = (l.drop f).take (k - f) ++ [c] := by
  rw [show k + 1 - f = (k - f) + 1 by omega]
  refine take_snoc ?_
  rw [List.getElem?_drop, show f + (k - f) = k by omega]
  exact hc
theorem drop_consI {l : List Int} {k : Nat} {c : Int} (hc : l[k]? = some c) : l.drop k = c :: l.drop (k + 1) := by
  obtain ⟨hk, rfl⟩ := List.getElem?_eq_some_iff.1 hc
  rw [List.drop_eq_getElem_cons hk]

set_option maxRecDepth 1000000 in
set_option maxHeartbeats 1000000 in
theorem split_spec (w : World) (s : ByteArray) (b : Int) (hb0 : 0 ≤ b) (hb1 : b ≤ 255) (hs : s.size ≤ 1000000000000) :
    Calls Tryz.prog 40 #[.string s, .int .u8 b] w fun e w' => ∃ v', e = .returned v' ∧ Own w' w.heap.size w'.heap.size 9 v' (ss (splitT b s)) ∧ Below w.heap.size w w' := by
  obtain ⟨i0, hi, hz0, hz1, hz2⟩ := info_parts info9v
  have ho0 := emptySv w w.heap.size (Nat.le_refl _)
  have hbe : Below w.heap.size w (w.alloc (.cells #[] 9)) := (Below.refl _ _).alloc (Nat.le_refl _) _
  go_enter Tryz.func40, Tryz.ntmps40
  go_wp2
  go_loopw [5, 6, 7] (fun o fr i wr => ∃ (k f : Nat) (P : List (List Int)), i = .int .i64 (k : Int) ∧ fr = .int .i64 (f : Int) ∧ P.length ≤ k ∧ k ≤ s.size + 1 ∧ Hid ((k ≤ s.size ∧ f ≤ k ∧ P ++ splitL b (((sb s).drop f).take (k - f)) ((sb s).drop k) = split b (sb s)) ∨ (k = s.size + 1 ∧ P = split b (sb s))) ∧ Own wr w.heap.size wr.heap.size 9 o (ss (P.map Plain.txt)) ∧ Below w.heap.size w wr) (fun _ _ i _ => s.size + 1 - (intOf i).toNat)
  case atStart => exact ⟨0, 0, [], rfl, rfl, Nat.le_refl _, by omega, .inl ⟨by omega, by omega, rfl⟩, ho0, hbe⟩
  case round =>
    obtain ⟨k, f, P, rfl, rfl, hPl, hk, HI, ho, hb⟩ := hrel
    have hsz := hb.size
    clear ho0 hbe
    by_cases hle : k ≤ s.size
    · obtain ⟨_, hf, hE⟩ : k ≤ s.size ∧ f ≤ k ∧ P ++ splitL b (((sb s).drop f).take (k - f)) ((sb s).drop k) = split b (sb s) := by
        rcases HI.out with h | h
        · exact h
        · omega
      have hl : (ss (P.map Plain.txt)).length = P.length := by rw [ss_len, List.length_map]
      have c2 : (ss (P.map Plain.txt)).length + 1 ≤ maxLen := by rw [hl]; unfold maxLen; omega
      have c3 : ((ss (P.map Plain.txt)).length + 1) * 16 ≤ 140737488355328 := by rw [hl]; omega
      have c4 : ∀ o, w.heap.size ≤ (wr.alloc o).heap.size := fun o => by simp; omega
      have HX : Hid (s.extract f k = Plain.txt (((sb s).drop f).take (k - f))) := ext_txt s f k
      have HS : Hid (ss ((P ++ [((sb s).drop f).take (k - f)]).map Plain.txt) = ss (P.map Plain.txt) ++ [.string (s.extract f k)]) := by
        show _ = _
        rw [List.map_append, ss_app, HX.out]
        rfl
      clear hl HI
      by_cases hend : k = s.size
      · have HN : Hid (P ++ [((sb s).drop f).take (k - f)] = split b (sb s)) := by
          show _ = _
          rw [← hE, List.drop_eq_nil_of_le (show (sb s).length ≤ k by rw [sb_len]; omega), splitL]
        have hd : ((k : Int) == (s.size : Int)) = true := by simp; omega
        have hge : s.size ≤ k := by omega
        clear hE hend
        go_wp2_with (at_builtin; go_must (refine wpl_app _ rfl (.tmp 26) (.tmp 31) 40 rfl 9 i0 (.string ⟨#[]⟩) 16 Tryz.underlying40 hi hz0 hz1 hz2 rfl w.heap.size _ (ss (P.map Plain.txt)) rfl (ho.alloc _) _ rfl [.string (s.extract f k)] (Sl.one _ _ _) (one_strv _) c2 c3 (c4 _) ?_); intro v3 w3 ho3 hb3 hg3)
        rw [← HS.out] at ho3
        have hb4 : Below w.heap.size w w3 := (hb.alloc hsz _).trans hb3
        go_roundw
        case rel => exact ⟨k + 1, k + 1, P ++ [((sb s).drop f).take (k - f)], by go_num, by go_num, by simp; omega, by omega, .inr ⟨by omega, HN.out⟩, ho3, hb4⟩
        case measure => simp [intOf]; omega
      · have hlt : k < s.size := by omega
        have hd : ((k : Int) == (s.size : Int)) = false := by simp; omega
        have hg := sb_get s k hlt
        have HG : Hid ((sb s)[k]? = some (s[k].toNat : Int)) := hg
        have hcb := (sb_byt s).at hg
        rw [drop_consI hg, splitL] at hE
        clear hg hend
        by_cases hc : (s[k].toNat : Int) = b
        · rw [if_pos hc] at hE
          have HN : Hid ((P ++ [((sb s).drop f).take (k - f)]) ++ splitL b (((sb s).drop (k + 1)).take (k + 1 - (k + 1))) ((sb s).drop (k + 1)) = split b (sb s)) := by
            show _ = _
            rw [← hE, Nat.sub_self, List.take_zero, List.append_assoc]
            rfl
          have hd2 : ((s[k].toNat : Int) == b) = true := by simpa using hc
          clear hE hc
          go_wp2_with (at_builtin; go_must (refine wpl_app _ rfl (.tmp 26) (.tmp 31) 40 rfl 9 i0 (.string ⟨#[]⟩) 16 Tryz.underlying40 hi hz0 hz1 hz2 rfl w.heap.size _ (ss (P.map Plain.txt)) rfl (ho.alloc _) _ rfl [.string (s.extract f k)] (Sl.one _ _ _) (one_strv _) c2 c3 (c4 _) ?_); intro v3 w3 ho3 hb3 hg3)
          rw [← HS.out] at ho3
          have hb4 : Below w.heap.size w w3 := (hb.alloc hsz _).trans hb3
          go_roundw
          case rel => exact ⟨k + 1, k + 1, P ++ [((sb s).drop f).take (k - f)], by go_num, by go_num, by simp; omega, by omega, .inl ⟨by omega, by omega, HN.out⟩, ho3, hb4⟩
          case measure => simp [intOf]; omega
        · rw [if_neg hc, ← cur_snoc hf HG.out] at hE
          have HN : Hid (P ++ splitL b (((sb s).drop f).take (k + 1 - f)) ((sb s).drop (k + 1)) = split b (sb s)) := hE
          have hd2 : ((s[k].toNat : Int) == b) = false := by simpa using hc
          clear hE hc
          go_wp2
          go_roundw
          case rel => exact ⟨k + 1, f, P, by go_num, by go_num, by omega, by omega, .inl ⟨by omega, by omega, HN.out⟩, ho, hb⟩
          case measure => simp [intOf]; omega
    · have HN : Hid (P = split b (sb s)) := by
        rcases HI.out with h | h
        · omega
        · exact h.2
      go_wp2
      go_ret
      exact ⟨_, rfl, by show Own _ _ _ _ _ (ss ((split b (sb s)).map Plain.txt)); rw [← HN.out]; exact ho, hb⟩

end Go.Proofs.YtbopliahafkecaaGreatDoor.Ver
