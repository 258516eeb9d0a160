/- Texts in one: Sha, Ver1, Ver2, Ver3, Ver4, Ver5, Ver6, Ver7. -/
import Derived.Test.YtlhmemnaiobgkaaGreatDoorPq2
import Derived.Test.YtlhmemnaiobgkaaGreatDoorPq3
import Derived.Test.YtlhmemnaiobgkaaGreatDoorPq4
import Derived.Deep.RegionLaw
import Derived.Deep.RegionHeld3
import Derived.Deep.RegionWith
import Derived.BigQuiet
import Derived.Deep.QuietTactic
/- Contracts of the specification's chapter 2: what is padded, hex digits, and digests, as plain functions of lists of numbers. -/
namespace Go.Proofs.YtlhmemnaiobgkaaGreatDoor.Sha
open Go.RowKit Go.Proofs.YtlhmemnaiobgkaaGreatDoor.Mem Go.Proofs.YtlhmemnaiobgkaaGreatDoor.Laws Go.Proofs.YtlhmemnaiobgkaaGreatDoor.Bytes
set_option linter.unusedVariables false
set_option linter.unusedSimpArgs false

/-- how many bytes 0 are padded behind n bytes and the byte 128 -/
def zc (n : Nat) : Nat := (120 - (n + 1) % 64) % 64
/-- a number's eight bytes, the highest first -/
def be8 (n : Nat) : List Int := [((n / 2 ^ 56 % 256 : Nat) : Int), ((n / 2 ^ 48 % 256 : Nat) : Int), ((n / 2 ^ 40 % 256 : Nat) : Int), ((n / 2 ^ 32 % 256 : Nat) : Int), ((n / 2 ^ 24 % 256 : Nat) : Int), ((n / 2 ^ 16 % 256 : Nat) : Int), ((n / 2 ^ 8 % 256 : Nat) : Int), ((n % 256 : Nat) : Int)]
def padded (xs : List Int) : List Int := xs ++ [128] ++ List.replicate (zc xs.length) 0 ++ be8 (xs.length * 8)

theorem be8_get (n t : Nat) (ht : t < 8) : (be8 n)[t]? = some ((n : Int) / 2 ^ (56 - 8 * t) % 256) := by
  rcases (show t = 0 ∨ t = 1 ∨ t = 2 ∨ t = 3 ∨ t = 4 ∨ t = 5 ∨ t = 6 ∨ t = 7 by omega) with rfl | rfl | rfl | rfl | rfl | rfl | rfl | rfl <;> simp [be8]

theorem one_byte (x : Int) : ∀ u ∈ [Value.int .u8 x], u.oneCell' = true := by
  intro u hu
  rw [List.mem_singleton] at hu
  rw [hu]
  rfl

theorem Own.emptyB (w : World) (lo : Nat) (h : lo ≤ w.heap.size) : Own (w.alloc (.cells #[] 5)) lo (w.alloc (.cells #[] 5)).heap.size 5 (.slice (some ⟨w.heap.size, 0, none⟩) 0 0) (bs []) :=
  Own.of (World.ownsRow_lit w #[] 0 h (Nat.zero_le _) rfl)

/-- a hex digit -/
def hexd (d : Int) : Int := if d < 10 then 48 + d else 87 + d
def hexs (xs : List Int) : List Int := xs.flatMap fun c => [hexd (c / 16), hexd (c % 16)]
theorem hexs_app (xs ys : List Int) : hexs (xs ++ ys) = hexs xs ++ hexs ys := by simp [hexs]
theorem hexs_one (c : Int) : hexs [c] = [hexd (c / 16), hexd (c % 16)] := by simp [hexs]
theorem hexs_len (xs : List Int) : (hexs xs).length = 2 * xs.length := by
  induction xs with
  | nil => rfl
  | cons x r ih => rw [show x :: r = [x] ++ r from rfl, hexs_app, hexs_one]; simp [ih]; omega
def lit16 : ByteArray := ⟨#[48, 49, 50, 51, 52, 53, 54, 55, 56, 57, 97, 98, 99, 100, 101, 102]⟩

theorem lit_get (d : Int) (h0 : 0 ≤ d) (h1 : d < 16) (hp : d.toNat < (⟨#[48, 49, 50, 51, 52, 53, 54, 55, 56, 57, 97, 98, 99, 100, 101, 102]⟩ : ByteArray).size) :
    ((((⟨#[48, 49, 50, 51, 52, 53, 54, 55, 56, 57, 97, 98, 99, 100, 101, 102]⟩ : ByteArray)[d.toNat]'hp).toNat : Nat) : Int) = hexd d := by
  rcases (show d = 0 ∨ d = 1 ∨ d = 2 ∨ d = 3 ∨ d = 4 ∨ d = 5 ∨ d = 6 ∨ d = 7 ∨ d = 8 ∨ d = 9 ∨ d = 10 ∨ d = 11 ∨ d = 12 ∨ d = 13 ∨ d = 14 ∨ d = 15 by omega) with rfl | rfl | rfl | rfl | rfl | rfl | rfl | rfl | rfl | rfl | rfl | rfl | rfl | rfl | rfl | rfl <;> rfl

theorem Sl.two (w : World) (a b : Int) (t : TypeId) : Sl (w.alloc (.cells #[.int .u8 a, .int .u8 b] t)) (.slice (some ⟨w.heap.size, 0, none⟩) 2 2) (bs [a, b]) := by
  refine ⟨some ⟨w.heap.size, 0, none⟩, 2, rfl, by simp [bs], fun h => (by cases h), fun _ => ⟨w.heap.size, 0, rfl, fun j hj => ?_⟩⟩
  rw [cell_of_row _ w.heap.size (0 + j) #[.int .u8 a, .int .u8 b] t (0, 0) (heap_alloc_new w _)]
  have h2 : j = 0 ∨ j = 1 := by simp [bs] at hj; omega
  rcases h2 with rfl | rfl <;> simp [bs]

theorem sb_get (s : ByteArray) (k : Nat) (h : k < s.size) : (sb s)[k]? = some ((s[k]'h).toNat : Int) := by
  have h2 : k < s.data.toList.length := by simpa using h
  simp only [sb, List.getElem?_map, List.getElem?_eq_getElem h2, Option.map_some]
  rfl

theorem hexd_byt {d : Int} (h0 : 0 ≤ d) (h1 : d < 16) : 0 ≤ hexd d ∧ hexd d ≤ 255 := by unfold hexd; split <;> omega
theorem hexs_byt (xs : List Int) (h : Byt xs) : Byt (hexs xs) := by
  intro x hx
  obtain ⟨c, hc, hx2⟩ := List.mem_flatMap.1 hx
  have hb := h c hc
  simp only [List.mem_cons, List.not_mem_nil, or_false] at hx2
  rcases hx2 with rfl | rfl
  · exact hexd_byt (by omega) (by omega)
  · exact hexd_byt (by omega) (by omega)

theorem conv_none (ao : Option Addr) (c : Nat) (w : World) : (convert 22 9 (.slice ao 0 c)).run Tryz.prog w = .ok (.string ⟨#[]⟩) w := by
  cases ao with
  | none => rw [run_convert_bytes_string w 22 9 5 none 0 c Tryz.underlying22 Tryz.underlying5 Tryz.underlying9]; rfl
  | some a => exact run_convert_bytes_back w 22 9 5 a c [] Tryz.underlying22 Tryz.underlying5 Tryz.underlying9 (fun j hj => by simp at hj)

theorem conv_sl {w : World} {v : Value} {zs : List Int} (h : Sl w v (bs zs)) (hb : Byt zs) : (convert 22 9 v).run Tryz.prog w = .ok (.string (Plain.txt zs)) w := by
  obtain ⟨ao, cap, rfl, hc, _, hr⟩ := h
  rw [bs_len] at hr hc
  rw [bs_len]
  by_cases h0 : zs.length = 0
  · have hz : zs = [] := List.eq_nil_of_length_eq_zero h0
    subst hz
    exact conv_none ao cap w
  · obtain ⟨b, off, rfl, hcell⟩ := hr (by omega)
    have hl : (Plain.u8s zs).length = zs.length := Plain.u8s_len zs
    have h := run_convert_bytes_back (P := Tryz.prog) w 22 9 5 ⟨b, off, none⟩ cap (Plain.u8s zs) Tryz.underlying22 Tryz.underlying5 Tryz.underlying9 (fun j hj => by
      rw [hl] at hj
      rw [Addr.add_lit, hcell j hj, bs_get]
      have hx : zs[j]? = some (zs[j]'hj) := by simp
      have hy := hb.at hx
      rw [hx]
      simp only [Plain.u8s, List.getElem_map, Option.map_some]
      rw [Plain.u8_back hy])
    rw [hl] at h
    exact h

/-- a hex digit's number; below 0 where it is none -/
def undig (c : Int) : Int := if 48 ≤ c ∧ c ≤ 57 then c - 48 else if 97 ≤ c ∧ c ≤ 102 then c - 87 else -1
theorem undig_bd (c : Int) : -1 ≤ undig c ∧ undig c ≤ 15 := by unfold undig; split <;> (try split) <;> omega

/-- pairs of hex digits as bytes -/
def unhex : List Int → Option (List Int)
  | [] => some []
  | [_] => none
  | a :: b :: r => if undig a < 0 ∨ undig b < 0 then none else (unhex r).map fun l => (undig a * 16 + undig b) :: l

set_option maxRecDepth 1000000 in
set_option maxHeartbeats 1000000 in
theorem in_spec (w : World) (x a b : Int) : Calls Tryz.prog 109 #[.int .i64 x, .int .i64 a, .int .i64 b] w fun e w' => e = .returned (.bool (decide (a ≤ x ∧ x ≤ b))) ∧ w = w' := by
  by_cases h1 : a ≤ x
  · have hd1 : decide (a ≤ x) = true := by simpa using h1
    by_cases h2 : x ≤ b
    · have hd2 : decide (x ≤ b) = true := by simpa using h2
      go_enter Tryz.func109, Tryz.ntmps109
      go_wp2
      go_ret
      exact ⟨by simp [h1, h2], rfl⟩
    · have hd2 : decide (x ≤ b) = false := by simpa using h2
      go_enter Tryz.func109, Tryz.ntmps109
      go_wp2
      go_ret
      exact ⟨by simp [h1, h2], rfl⟩
  · have hd1 : decide (a ≤ x) = false := by simpa using h1
    go_enter Tryz.func109, Tryz.ntmps109
    go_wp2
    go_ret
    exact ⟨by simp [h1], rfl⟩

/-- What UnHex answers. -/
def unHex (s : ByteArray) : ByteArray × Bool := match unhex (sb s) with
  | some l => (Plain.txt l, true)
  | none => (⟨#[]⟩, false)
theorem unHex_none {s : ByteArray} (h : unhex (sb s) = none) : unHex s = (⟨#[]⟩, false) := by unfold unHex; rw [h]
theorem unHex_some {s : ByteArray} {l : List Int} (h : unhex (sb s) = some l) : unHex s = (Plain.txt l, true) := by unfold unHex; rw [h]

theorem unhex_bad {a b : Int} {r : List Int} (h : undig a < 0 ∨ undig b < 0) : unhex (a :: b :: r) = none := by rw [unhex, if_pos h]
theorem unhex_good {a b : Int} {r : List Int} (h : ¬ (undig a < 0 ∨ undig b < 0)) : unhex (a :: b :: r) = (unhex r).map fun l => (undig a * 16 + undig b) :: l := by rw [unhex, if_neg h]

theorem drop_two {l : List Int} {k : Nat} {a b : Int} (h1 : l[k]? = some a) (h2 : l[k + 1]? = some b) : l.drop k = a :: b :: l.drop (k + 2) := by
  obtain ⟨hk, rfl⟩ := List.getElem?_eq_some_iff.1 h1
  obtain ⟨hk2, rfl⟩ := List.getElem?_eq_some_iff.1 h2
  rw [List.drop_eq_getElem_cons hk, List.drop_eq_getElem_cons hk2]

theorem ret2 {s s' : ByteArray} {c c' : Bool} (h1 : s = s') (h2 : c = c') : Ending.returned (.tuple #[.string s, .bool c]) = .returned (.tuple #[.string s', .bool c']) := by rw [h1, h2]

end Go.Proofs.YtlhmemnaiobgkaaGreatDoor.Sha

/- Chapter 3, the specification's side: digits, numbers, parts of a text, as plain functions of lists of bytes. -/
namespace Go.Proofs.YtlhmemnaiobgkaaGreatDoor.Ver
open Go.RowKit Go.Proofs.YtlhmemnaiobgkaaGreatDoor.Mem Go.Proofs.YtlhmemnaiobgkaaGreatDoor.Laws Go.Proofs.YtlhmemnaiobgkaaGreatDoor.Bytes Go.Proofs.YtlhmemnaiobgkaaGreatDoor.Sha
set_option linter.unusedVariables false
set_option linter.unusedSimpArgs false

/-- a digit -/
def isd (c : Int) : Bool := decide (48 ≤ c ∧ c ≤ 57)
/-- digits alone, and one at least -/
def digs (l : List Int) : Bool := l.all isd && !l.isEmpty
def numv (l : List Int) : Int := l.foldl (fun n c => n * 10 + (c - 48)) 0
/-- a number of at most eight digits without a needless nought; below 0: it is none -/
def number (l : List Int) : Int := if digs l = false ∨ 8 < l.length ∨ (1 < l.length ∧ l.head? = some 48) then -1 else numv l
/-- a sign of a part -/
def psign (c : Int) : Bool := decide (97 ≤ c ∧ c ≤ 122) || decide (65 ≤ c ∧ c ≤ 90) || decide (48 ≤ c ∧ c ≤ 57) || decide (c = 45)
def part (l : List Int) : Bool := l.all psign && decide (1 ≤ l.length ∧ l.length ≤ 8) && (!digs l || decide (0 ≤ number l))

theorem all_take {p : Int → Bool} {l : List Int} {k : Nat} {c : Int} (h : (l.take k).all p = true) (hc : l[k]? = some c) (hp : p c = true) : (l.take (k + 1)).all p = true := by
  rw [take_snoc hc, List.all_append, h]
  simp [hp]
theorem all_bad {p : Int → Bool} {l : List Int} {k : Nat} {c : Int} (hc : l[k]? = some c) (hp : p c = false) : l.all p = false := by
  rw [List.all_eq_false]
  exact ⟨c, List.mem_of_getElem? hc, by simp [hp]⟩

theorem loop_nil (s : ByteArray) (h : s.size = 0) : s.toList = [] := by
  unfold ByteArray.toList
  unfold ByteArray.toList.loop
  simp [h]
theorem loop_ge (s : ByteArray) (n : Nat) : ∀ i r, s.size - i = n → r ≠ [] → ByteArray.toList.loop s i r ≠ [] := by
  induction n with
  | zero => intro i r h hr; unfold ByteArray.toList.loop; rw [if_neg (by omega)]; simpa using hr
  | succ n ih => intro i r h hr; unfold ByteArray.toList.loop; rw [if_pos (by omega)]; exact ih _ _ (by omega) (by simp)
theorem loop_pos (s : ByteArray) (h : 0 < s.size) : s.toList ≠ [] := by
  unfold ByteArray.toList
  unfold ByteArray.toList.loop
  rw [if_pos (by omega)]
  exact loop_ge s _ _ _ rfl (by simp)
theorem toList_empty (s : ByteArray) : s.toList.isEmpty = decide (s.size = 0) := by
  by_cases h : s.size = 0
  · rw [loop_nil s h]; simp [h]
  · have := loop_pos s (by omega)
    rw [List.isEmpty_eq_false_iff.2 this]
    simp [h]
theorem sb_empty (s : ByteArray) : (sb s).isEmpty = decide (s.size = 0) := by
  have h := sb_len s
  cases hb : sb s with
  | nil => rw [hb] at h; simp at h; simp [← h]
  | cons x r =>
    rw [hb] at h
    simp only [List.length_cons] at h
    rw [decide_eq_false (by omega)]
    rfl

set_option maxRecDepth 1000000 in
set_option maxHeartbeats 1000000 in
theorem digits_spec (w : World) (s : ByteArray) (hs : s.size ≤ 10000000000000) : Calls Tryz.prog 124 #[.string s] w fun e w' => e = .returned (.bool (digs (sb s))) ∧ w = w' := by
  go_enter Tryz.func124, Tryz.ntmps124
  go_wp2
  go_loopw [3] (fun i wr => ∃ k : Nat, k ≤ s.size ∧ i = .int .i64 (k : Int) ∧ Hid (((sb s).take k).all isd = true) ∧ w = wr) (fun i _ => s.size - (intOf i).toNat)
  case atStart => exact ⟨0, Nat.zero_le _, rfl, rfl, rfl⟩
  case round =>
    obtain ⟨k, hk, rfl, HA, rfl⟩ := hrel
    by_cases hlt : k < s.size
    · have hg := sb_get s k hlt
      have hcb := (sb_byt s).at hg
      have HG : Hid ((sb s)[k]? = some (s[k].toNat : Int)) := hg
      clear hg
      by_cases hd : isd (s[k].toNat : Int) = true
      · have hd' : decide ((48 : Int) ≤ (s[k].toNat : Int) ∧ (s[k].toNat : Int) ≤ 57) = true := hd
        have HN : Hid (((sb s).take (k + 1)).all isd = true) := all_take HA.out HG.out hd
        clear hd
        go_wp2_with (go_at_call 109; refine (in_spec _ _ _ _).mono ?_; rintro e w' ⟨rfl, rfl⟩; rw [hd'])
        go_roundw
        case rel => exact ⟨k + 1, by omega, by go_num, HN, by first | rfl | trivial⟩
        case measure => simp [intOf]; omega
      · have hd0 : isd (s[k].toNat : Int) = false := by simpa using hd
        have hd' : decide ((48 : Int) ≤ (s[k].toNat : Int) ∧ (s[k].toNat : Int) ≤ 57) = false := hd0
        have HN : Hid (digs (sb s) = false) := by show _ = _; unfold digs; rw [all_bad HG.out hd0]; rfl
        clear hd hd0
        go_wp2_with (go_at_call 109; refine (in_spec _ _ _ _).mono ?_; rintro e w' ⟨rfl, rfl⟩; rw [hd'])
        go_ret
        exact ⟨by rw [HN.out]; rfl, rfl⟩
    · have HN : Hid (digs (sb s) = !(sb s).isEmpty) := by
        show _ = _
        have h1 := HA.out
        rw [List.take_of_length_le (by rw [sb_len]; omega)] at h1
        unfold digs
        rw [h1]
        rfl
      by_cases h0 : s.size = 0
      · have he : s.toList.isEmpty = true := by rw [toList_empty]; simp [h0]
        have HM : Hid (digs (sb s) = false) := by show _ = _; rw [HN.out, sb_empty]; simp [h0]
        go_wp2
        go_ret
        exact ⟨by rw [HM.out]; rfl, rfl⟩
      · have he : s.toList.isEmpty = false := by rw [toList_empty]; simp [h0]
        have HM : Hid (digs (sb s) = true) := by show _ = _; rw [HN.out, sb_empty]; simp [h0]
        go_wp2
        go_ret
        exact ⟨by rw [HM.out]; rfl, rfl⟩

theorem or4 {b1 b2 b3 : Bool} {p : Prop} [Decidable p] (h : false = (b1 || b2 || b3 || decide p)) : b1 = false ∧ b2 = false ∧ b3 = false ∧ ¬ p := by
  cases b1 <;> cases b2 <;> cases b3 <;> simp_all

theorem numv_snoc (l : List Int) (c : Int) : numv (l ++ [c]) = numv l * 10 + (c - 48) := by simp [numv]
theorem numv_bd (n : Nat) : ∀ l : List Int, l.length ≤ n → l.all isd = true → 0 ≤ numv l ∧ numv l < 10 ^ n := by
  induction n with
  | zero => intro l h _; have : l = [] := List.eq_nil_of_length_eq_zero (by omega); subst this; simp [numv]
  | succ n ih =>
    intro l h ha
    rcases List.eq_nil_or_concat l with rfl | ⟨r, c, rfl⟩
    · have : (0 : Int) < 10 ^ (n + 1) := Int.pow_pos (by decide)
      exact ⟨by simp [numv], by simpa [numv] using this⟩
    · rw [List.concat_eq_append] at *
      rw [List.all_append, Bool.and_eq_true] at ha
      have hr := ih r (by simp at h; omega) ha.1
      have hc : 48 ≤ c ∧ c ≤ 57 := by have := ha.2; simp [isd] at this; exact this
      rw [numv_snoc, Int.pow_succ]
      omega

set_option maxRecDepth 1000000 in
set_option maxHeartbeats 1000000 in
theorem number_spec (w : World) (s : ByteArray) (hs : s.size ≤ 10000000000000) : Calls Tryz.prog 108 #[.string s] w fun e w' => e = .returned (.int .i64 (number (sb s))) ∧ w = w' := by
  have q : ∀ w, _ := fun w => digits_spec w s hs
  obtain ⟨dg, hdg⟩ : ∃ d, digs (sb s) = d := ⟨_, rfl⟩
  rw [hdg] at q
  by_cases hbad : digs (sb s) = false ∨ 8 < (sb s).length ∨ (1 < (sb s).length ∧ (sb s).head? = some 48)
  · have HN : Hid (number (sb s) = -1) := by show _ = _; unfold number; rw [if_pos hbad]
    rw [hdg, sb_len] at hbad
    by_cases h1 : dg = false
    · subst h1
      go_enter Tryz.func108, Tryz.ntmps108
      go_wp2_with (go_at_call 124; refine (q _).mono ?_; rintro e w' ⟨rfl, rfl⟩)
      go_ret
      exact ⟨by rw [HN.out]; rfl, rfl⟩
    · have h1' : dg = true := by simpa using h1
      subst h1'
      by_cases h2 : 8 < s.size
      · have hd2 : decide (8 < (s.size : Int)) = true := by simp; omega
        go_enter Tryz.func108, Tryz.ntmps108
        go_wp2_with (go_at_call 124; refine (q _).mono ?_; rintro e w' ⟨rfl, rfl⟩)
        go_ret
        exact ⟨by rw [HN.out]; rfl, rfl⟩
      · have h3 : 1 < s.size ∧ (sb s).head? = some 48 := by rcases hbad with h | h | h; cases h; exact absurd h h2; exact h
        have hd2 : decide (8 < (s.size : Int)) = false := by simp; omega
        have hd3 : decide (1 < (s.size : Int)) = true := by simp; omega
        have h0 : 0 < s.size := by omega
        have hg := sb_get s 0 h0
        have hc : (s[0].toNat : Int) = 48 := by
          rw [← List.head?_eq_getElem?] at hg
          rw [h3.2] at hg
          simpa using hg.symm
        have hd4 : ((s[0].toNat : Int) == 48) = true := by simpa using hc
        clear hg hbad
        go_enter Tryz.func108, Tryz.ntmps108
        go_wp2_with (go_at_call 124; refine (q _).mono ?_; rintro e w' ⟨rfl, rfl⟩)
        go_ret
        exact ⟨by rw [HN.out]; rfl, rfl⟩
  · have HN : Hid (number (sb s) = numv (sb s)) := by show _ = _; unfold number; rw [if_neg hbad]
    have hdt : digs (sb s) = true := by
      cases h : digs (sb s) with
      | true => rfl
      | false => exact absurd (.inl h) hbad
    have h2 : ¬ 8 < s.size := fun h => hbad (.inr (.inl (by rw [sb_len]; exact h)))
    have HA : Hid ((sb s).all isd = true) := by have := hdt; unfold digs at this; rw [Bool.and_eq_true] at this; exact this.1
    have h1 : dg = true := by rw [← hdg]; exact hdt
    subst h1
    have hd2 : decide (8 < (s.size : Int)) = false := by simp; omega
    have h0 : 0 < s.size := by
      rcases Nat.eq_zero_or_pos s.size with h | h
      · exfalso
        have h4 := hdt
        unfold digs at h4
        rw [sb_empty, decide_eq_true h] at h4
        simp at h4
      · exact h
    have HB : Hid (∀ k, k ≤ 8 → 0 ≤ numv ((sb s).take k) ∧ numv ((sb s).take k) < 10 ^ 8) := fun k hk => by
      have h := numv_bd 8 ((sb s).take k) (by simp; omega) (List.all_eq_true.2 fun x hx => List.all_eq_true.1 HA.out x (List.mem_of_mem_take hx))
      exact h
    by_cases h3 : 1 < s.size
    · have hd3 : decide (1 < (s.size : Int)) = true := by simp; omega
      have hg := sb_get s 0 h0
      have hc : ¬ (s[0].toNat : Int) = 48 := fun hc => hbad (.inr (.inr ⟨by rw [sb_len]; exact h3, by rw [List.head?_eq_getElem?, hg, hc]⟩))
      have hd4 : ((s[0].toNat : Int) == 48) = false := by simpa using hc
      clear hg hc hbad hdg hdt
      go_enter Tryz.func108, Tryz.ntmps108
      go_wp2_with (go_at_call 124; refine (q _).mono ?_; rintro e w' ⟨rfl, rfl⟩)
      go_loopw [3, 4] (fun n i wr => ∃ k : Nat, k ≤ s.size ∧ i = .int .i64 (k : Int) ∧ n = .int .i64 (numv ((sb s).take k)) ∧ w = wr) (fun _ i _ => s.size - (intOf i).toNat)
      case atStart => exact ⟨0, Nat.zero_le _, rfl, rfl, by first | rfl | trivial⟩
      case round =>
        obtain ⟨k, hk, rfl, rfl, rfl⟩ := hrel
        clear q
        by_cases hlt : k < s.size
        · have hg := sb_get s k hlt
          have hcb : 48 ≤ (s[k].toNat : Int) ∧ (s[k].toNat : Int) ≤ 57 := by
            have := List.all_eq_true.1 HA.out _ (List.mem_of_getElem? hg)
            simpa [isd] using this
          have HX : Hid (numv ((sb s).take (k + 1)) = numv ((sb s).take k) * 10 + ((s[k].toNat : Int) - 48)) := by
            show _ = _; rw [take_snoc hg, numv_snoc]
          have hb := HB.out k (by omega)
          obtain ⟨n, hn⟩ : ∃ n, numv ((sb s).take k) = n := ⟨_, rfl⟩
          rw [hn] at HX hb ⊢
          have hb2 : n < 100000000 := hb.2
          have hb1 := hb.1
          clear hg hb hn
          go_wp2
          go_roundw
          case rel => exact ⟨k + 1, by omega, by go_num, by rw [HX.out], by first | rfl | trivial⟩
          case measure => simp [intOf]; omega
        · rw [List.take_of_length_le (by rw [sb_len]; omega)]
          go_wp2
          go_ret
          exact ⟨by rw [HN.out]; rfl, rfl⟩
    · have hd3 : decide (1 < (s.size : Int)) = false := by simp; omega
      clear hbad hdg hdt
      go_enter Tryz.func108, Tryz.ntmps108
      go_wp2_with (go_at_call 124; refine (q _).mono ?_; rintro e w' ⟨rfl, rfl⟩)
      go_loopw [3, 4] (fun n i wr => ∃ k : Nat, k ≤ s.size ∧ i = .int .i64 (k : Int) ∧ n = .int .i64 (numv ((sb s).take k)) ∧ w = wr) (fun _ i _ => s.size - (intOf i).toNat)
      case atStart => exact ⟨0, Nat.zero_le _, rfl, rfl, by first | rfl | trivial⟩
      case round =>
        obtain ⟨k, hk, rfl, rfl, rfl⟩ := hrel
        clear q
        by_cases hlt : k < s.size
        · have hg := sb_get s k hlt
          have hcb : 48 ≤ (s[k].toNat : Int) ∧ (s[k].toNat : Int) ≤ 57 := by
            have := List.all_eq_true.1 HA.out _ (List.mem_of_getElem? hg)
            simpa [isd] using this
          have HX : Hid (numv ((sb s).take (k + 1)) = numv ((sb s).take k) * 10 + ((s[k].toNat : Int) - 48)) := by
            show _ = _; rw [take_snoc hg, numv_snoc]
          have hb := HB.out k (by omega)
          obtain ⟨n, hn⟩ : ∃ n, numv ((sb s).take k) = n := ⟨_, rfl⟩
          rw [hn] at HX hb ⊢
          have hb2 : n < 100000000 := hb.2
          have hb1 := hb.1
          clear hg hb hn
          go_wp2
          go_roundw
          case rel => exact ⟨k + 1, by omega, by go_num, by rw [HX.out], by first | rfl | trivial⟩
          case measure => simp [intOf]; omega
        · rw [List.take_of_length_le (by rw [sb_len]; omega)]
          go_wp2
          go_ret
          exact ⟨by rw [HN.out]; rfl, rfl⟩

set_option maxRecDepth 1000000 in
set_option maxHeartbeats 1000000 in
theorem part_spec (w : World) (s : ByteArray) (hs : s.size ≤ 10000000000000) : Calls Tryz.prog 133 #[.string s] w fun e w' => e = .returned (.bool (part (sb s))) ∧ w = w' := by
  have q : ∀ w, _ := fun w => digits_spec w s hs
  have p : ∀ w, _ := fun w => number_spec w s hs
  obtain ⟨dg, hdg⟩ : ∃ d, digs (sb s) = d := ⟨_, rfl⟩
  obtain ⟨nm, hnm⟩ : ∃ d, number (sb s) = d := ⟨_, rfl⟩
  rw [hdg] at q
  rw [hnm] at p
  have HD : Hid (digs (sb s) = dg ∧ number (sb s) = nm) := ⟨hdg, hnm⟩
  clear hdg hnm
  go_enter Tryz.func133, Tryz.ntmps133
  go_wp2
  go_loopw [3] (fun i wr => ∃ k : Nat, k ≤ s.size ∧ i = .int .i64 (k : Int) ∧ Hid (((sb s).take k).all psign = true) ∧ w = wr) (fun i _ => s.size - (intOf i).toNat)
  case atStart => exact ⟨0, Nat.zero_le _, rfl, rfl, rfl⟩
  case round =>
    obtain ⟨k, hk, rfl, HA, rfl⟩ := hrel
    by_cases hlt : k < s.size
    · have hg := sb_get s k hlt
      have hcb := (sb_byt s).at hg
      have HG : Hid ((sb s)[k]? = some (s[k].toNat : Int)) := hg
      clear hg q p
      obtain ⟨b1, e1⟩ : ∃ b, decide ((97 : Int) ≤ (s[k].toNat : Int) ∧ (s[k].toNat : Int) ≤ 122) = b := ⟨_, rfl⟩
      obtain ⟨b2, e2⟩ : ∃ b, decide ((65 : Int) ≤ (s[k].toNat : Int) ∧ (s[k].toNat : Int) ≤ 90) = b := ⟨_, rfl⟩
      obtain ⟨b3, e3⟩ : ∃ b, decide ((48 : Int) ≤ (s[k].toNat : Int) ∧ (s[k].toNat : Int) ≤ 57) = b := ⟨_, rfl⟩
      have HP : Hid (psign (s[k].toNat : Int) = (b1 || b2 || b3 || decide ((s[k].toNat : Int) = 45))) := by show _ = _; unfold psign; rw [e1, e2, e3]
      by_cases hd : psign (s[k].toNat : Int) = true
      · have HN : Hid (((sb s).take (k + 1)).all psign = true) := all_take HA.out HG.out hd
        clear hd
        cases b1
        · cases b2
          · cases b3
            · have hd4 : ((s[k].toNat : Int) != 45) = false := by
                have := HP.out
                have h2 : psign (s[k].toNat : Int) = true := by
                  have := List.all_eq_true.1 HN.out _ (by rw [take_snoc HG.out]; exact List.mem_append_right _ (List.mem_singleton.2 rfl))
                  exact this
                rw [h2] at this
                simp at this
                simp [this]
              go_wp2_with (go_at_call 109; refine (in_spec _ _ _ _).mono ?_; rintro e w' ⟨rfl, rfl⟩; first | rw [e1] | rw [e2] | rw [e3])
              go_roundw
              case rel => exact ⟨k + 1, by omega, by go_num, HN, by first | rfl | trivial⟩
              case measure => simp [intOf]; omega
            · go_wp2_with (go_at_call 109; refine (in_spec _ _ _ _).mono ?_; rintro e w' ⟨rfl, rfl⟩; first | rw [e1] | rw [e2] | rw [e3])
              go_roundw
              case rel => exact ⟨k + 1, by omega, by go_num, HN, by first | rfl | trivial⟩
              case measure => simp [intOf]; omega
          · go_wp2_with (go_at_call 109; refine (in_spec _ _ _ _).mono ?_; rintro e w' ⟨rfl, rfl⟩; first | rw [e1] | rw [e2] | rw [e3])
            go_roundw
            case rel => exact ⟨k + 1, by omega, by go_num, HN, by first | rfl | trivial⟩
            case measure => simp [intOf]; omega
        · go_wp2_with (go_at_call 109; refine (in_spec _ _ _ _).mono ?_; rintro e w' ⟨rfl, rfl⟩; first | rw [e1] | rw [e2] | rw [e3])
          go_roundw
          case rel => exact ⟨k + 1, by omega, by go_num, HN, by first | rfl | trivial⟩
          case measure => simp [intOf]; omega
      · have hd0 : psign (s[k].toNat : Int) = false := by simpa using hd
        have HN : Hid (part (sb s) = false) := by show _ = _; unfold part; rw [all_bad HG.out hd0]; rfl
        have h5 := HP.out
        rw [hd0] at h5
        obtain ⟨rfl, rfl, rfl, h7⟩ := or4 h5
        have hd4 : ((s[k].toNat : Int) != 45) = true := by rw [bne_iff_ne]; exact h7
        clear hd hd0 h5 h7
        go_wp2_with (go_at_call 109; refine (in_spec _ _ _ _).mono ?_; rintro e w' ⟨rfl, rfl⟩; first | rw [e1] | rw [e2] | rw [e3])
        go_ret
        exact ⟨by rw [HN.out]; rfl, rfl⟩
    · have h1 := HA.out
      rw [List.take_of_length_le (by rw [sb_len]; omega)] at h1
      obtain ⟨b1, e1⟩ : ∃ b, decide ((1 : Int) ≤ (s.size : Int) ∧ (s.size : Int) ≤ 8) = b := ⟨_, rfl⟩
      have HP : Hid (part (sb s) = (b1 && (!dg || decide (0 ≤ nm)))) := by
        show _ = _
        unfold part
        have e5 : decide (1 ≤ s.size ∧ s.size ≤ 8) = decide ((1 : Int) ≤ (s.size : Int) ∧ (s.size : Int) ≤ 8) := decide_eq_decide.2 (by omega)
        rw [h1, HD.out.1, HD.out.2, sb_len, e5, e1]
        rfl
      clear h1
      cases b1
      · go_wp2_with (go_at_call 109; refine (in_spec _ _ _ _).mono ?_; rintro e w' ⟨rfl, rfl⟩; rw [e1])
        go_ret
        exact ⟨by rw [HP.out]; rfl, rfl⟩
      · cases dg
        · go_wp2_with (first | (go_at_call 109; refine (in_spec _ _ _ _).mono ?_; rintro e w' ⟨rfl, rfl⟩; rw [e1]) | (go_at_call 124; refine (q _).mono ?_; rintro e w' ⟨rfl, rfl⟩) | (go_at_call 108; refine (p _).mono ?_; rintro e w' ⟨rfl, rfl⟩))
          go_ret
          exact ⟨by rw [HP.out]; rfl, rfl⟩
        · go_wp2_with (first | (go_at_call 109; refine (in_spec _ _ _ _).mono ?_; rintro e w' ⟨rfl, rfl⟩; rw [e1]) | (go_at_call 124; refine (q _).mono ?_; rintro e w' ⟨rfl, rfl⟩) | (go_at_call 108; refine (p _).mono ?_; rintro e w' ⟨rfl, rfl⟩))
          go_ret
          exact ⟨by rw [HP.out]; rfl, rfl⟩

end Go.Proofs.YtlhmemnaiobgkaaGreatDoor.Ver

/- Chapter 3, the specification's side: a text's parts; what stands behind a version; versions that are right. -/
namespace Go.Proofs.YtlhmemnaiobgkaaGreatDoor.Ver
open Go.RowKit Go.Proofs.YtlhmemnaiobgkaaGreatDoor.Mem Go.Proofs.YtlhmemnaiobgkaaGreatDoor.Laws Go.Proofs.YtlhmemnaiobgkaaGreatDoor.Bytes Go.Proofs.YtlhmemnaiobgkaaGreatDoor.Sha
set_option linter.unusedVariables false
set_option linter.unusedSimpArgs false

theorem info9v : (Tryz.prog.info? 9).map (fun i => (i.zero, i.size, i.bytes)) = some (some (.string ⟨#[]⟩), 1, 16) := by kernel_rfl
theorem one_strv (s : ByteArray) : ∀ u ∈ [Value.string s], u.oneCell' = true := by
  intro u hu
  rw [List.mem_singleton] at hu
  rw [hu]
  rfl
theorem emptySv (w : World) (lo : Nat) (h : lo ≤ w.heap.size) : Own (w.alloc (.cells #[] 9)) lo (w.alloc (.cells #[] 9)).heap.size 9 (.slice (some ⟨w.heap.size, 0, none⟩) 0 0) (ss []) :=
  Own.of (World.ownsRow_lit w #[] 0 h (Nat.zero_le _) rfl)

/-- the parts of a text, with a sign between -/
def splitL (b : Int) : List Int → List Int → List (List Int)
  | cur, [] => [cur]
  | cur, c :: r => if c = b then cur :: splitL b [] r else splitL b (cur ++ [c]) r
def split (b : Int) (l : List Int) : List (List Int) := splitL b [] l
def splitT (b : Int) (s : ByteArray) : List ByteArray := (split b (sb s)).map Plain.txt

theorem splitL_len (b : Int) : ∀ (l cur : List Int), (splitL b cur l).length ≤ l.length + 1 := by
  intro l
  induction l with
  | nil => intro cur; simp [splitL]
  | cons c r ih =>
    intro cur
    unfold splitL
    split
    · have := ih []; simp only [List.length_cons]; omega
    · have := ih (cur ++ [c]); simp only [List.length_cons]; omega
theorem splitT_len (b : Int) (s : ByteArray) : (splitT b s).length ≤ s.size + 1 := by
  unfold splitT split
  rw [List.length_map]
  have := splitL_len b (sb s) []
  rw [sb_len] at this
  exact this

theorem u8s_sb (s : ByteArray) : Plain.u8s (sb s) = s.data.toList := by
  unfold Plain.u8s sb
  rw [List.map_map]
  conv => rhs; rw [← List.map_id s.data.toList]
  apply List.map_congr_left
  intro b _
  simp
theorem ext_txt (s : ByteArray) (f k : Nat) : s.extract f k = Plain.txt (((sb s).drop f).take (k - f)) := by
  apply ByteArray.ext
  apply Array.ext'
  rw [ByteArray.data_extract, Array.toList_extract]
  show _ = Plain.u8s (((sb s).drop f).take (k - f))
  have h : Plain.u8s (((sb s).drop f).take (k - f)) = ((Plain.u8s (sb s)).drop f).take (k - f) := by
    unfold Plain.u8s
    rw [← List.map_drop, ← List.map_take]
  rw [h, u8s_sb]

theorem cur_snoc {l : List Int} {f k : Nat} {c : Int} (hf : f ≤ k) (hc : l[k]? = some c) : (l.drop f).take (k + 1 - f) = (l.drop f).take (k - f) ++ [c] := by
  rw [show k + 1 - f = (k - f) + 1 by omega]
  refine take_snoc ?_
  rw [List.getElem?_drop, show f + (k - f) = k by omega]
  exact hc
theorem drop_consI {l : List Int} {k : Nat} {c : Int} (hc : l[k]? = some c) : l.drop k = c :: l.drop (k + 1) := by
  obtain ⟨hk, rfl⟩ := List.getElem?_eq_some_iff.1 hc
  rw [List.drop_eq_getElem_cons hk]

set_option maxRecDepth 1000000 in
set_option maxHeartbeats 1000000 in
theorem split_spec (w : World) (s : ByteArray) (b : Int) (hb0 : 0 ≤ b) (hb1 : b ≤ 255) (hs : s.size ≤ 1000000000000) :
    Calls Tryz.prog 106 #[.string s, .int .u8 b] w fun e w' => ∃ v', e = .returned v' ∧ Own w' w.heap.size w'.heap.size 9 v' (ss (splitT b s)) ∧ Below w.heap.size w w' := by
  obtain ⟨i0, hi, hz0, hz1, hz2⟩ := info_parts info9v
  have ho0 := emptySv w w.heap.size (Nat.le_refl _)
  have hbe : Below w.heap.size w (w.alloc (.cells #[] 9)) := (Below.refl _ _).alloc (Nat.le_refl _) _
  go_enter Tryz.func106, Tryz.ntmps106
  go_wp2
  go_loopw [5, 6, 7] (fun o fr i wr => ∃ (k f : Nat) (P : List (List Int)), i = .int .i64 (k : Int) ∧ fr = .int .i64 (f : Int) ∧ P.length ≤ k ∧ k ≤ s.size + 1 ∧ Hid ((k ≤ s.size ∧ f ≤ k ∧ P ++ splitL b (((sb s).drop f).take (k - f)) ((sb s).drop k) = split b (sb s)) ∨ (k = s.size + 1 ∧ P = split b (sb s))) ∧ Own wr w.heap.size wr.heap.size 9 o (ss (P.map Plain.txt)) ∧ Below w.heap.size w wr) (fun _ _ i _ => s.size + 1 - (intOf i).toNat)
  case atStart => exact ⟨0, 0, [], rfl, rfl, Nat.le_refl _, by omega, .inl ⟨by omega, by omega, rfl⟩, ho0, hbe⟩
  case round =>
    obtain ⟨k, f, P, rfl, rfl, hPl, hk, HI, ho, hb⟩ := hrel
    have hsz := hb.size
    clear ho0 hbe
    by_cases hle : k ≤ s.size
    · obtain ⟨_, hf, hE⟩ : k ≤ s.size ∧ f ≤ k ∧ P ++ splitL b (((sb s).drop f).take (k - f)) ((sb s).drop k) = split b (sb s) := by
        rcases HI.out with h | h
        · exact h
        · omega
      have hl : (ss (P.map Plain.txt)).length = P.length := by rw [ss_len, List.length_map]
      have c2 : (ss (P.map Plain.txt)).length + 1 ≤ maxLen := by rw [hl]; unfold maxLen; omega
      have c3 : ((ss (P.map Plain.txt)).length + 1) * 16 ≤ 140737488355328 := by rw [hl]; omega
      have c4 : ∀ o, w.heap.size ≤ (wr.alloc o).heap.size := fun o => by simp; omega
      have HX : Hid (s.extract f k = Plain.txt (((sb s).drop f).take (k - f))) := ext_txt s f k
      have HS : Hid (ss ((P ++ [((sb s).drop f).take (k - f)]).map Plain.txt) = ss (P.map Plain.txt) ++ [.string (s.extract f k)]) := by
        show _ = _
        rw [List.map_append, ss_app, HX.out]
        rfl
      clear hl HI
      by_cases hend : k = s.size
      · have HN : Hid (P ++ [((sb s).drop f).take (k - f)] = split b (sb s)) := by
          show _ = _
          rw [← hE, List.drop_eq_nil_of_le (show (sb s).length ≤ k by rw [sb_len]; omega), splitL]
        have hd : ((k : Int) == (s.size : Int)) = true := by simp; omega
        have hge : s.size ≤ k := by omega
        clear hE hend
        go_wp2_with (at_builtin; go_must (refine wpl_app _ rfl (.tmp 26) (.tmp 31) 111 rfl 9 i0 (.string ⟨#[]⟩) 16 Tryz.underlying111 hi hz0 hz1 hz2 rfl w.heap.size _ (ss (P.map Plain.txt)) rfl (ho.alloc _) _ rfl [.string (s.extract f k)] (Sl.one _ _ _) (one_strv _) c2 c3 (c4 _) ?_); intro v3 w3 ho3 hb3 hg3)
        rw [← HS.out] at ho3
        have hb4 : Below w.heap.size w w3 := (hb.alloc hsz _).trans hb3
        go_roundw
        case rel => exact ⟨k + 1, k + 1, P ++ [((sb s).drop f).take (k - f)], by go_num, by go_num, by simp; omega, by omega, .inr ⟨by omega, HN.out⟩, ho3, hb4⟩
        case measure => simp [intOf]; omega
      · have hlt : k < s.size := by omega
        have hd : ((k : Int) == (s.size : Int)) = false := by simp; omega
        have hg := sb_get s k hlt
        have HG : Hid ((sb s)[k]? = some (s[k].toNat : Int)) := hg
        have hcb := (sb_byt s).at hg
        rw [drop_consI hg, splitL] at hE
        clear hg hend
        by_cases hc : (s[k].toNat : Int) = b
        · rw [if_pos hc] at hE
          have HN : Hid ((P ++ [((sb s).drop f).take (k - f)]) ++ splitL b (((sb s).drop (k + 1)).take (k + 1 - (k + 1))) ((sb s).drop (k + 1)) = split b (sb s)) := by
            show _ = _
            rw [← hE, Nat.sub_self, List.take_zero, List.append_assoc]
            rfl
          have hd2 : ((s[k].toNat : Int) == b) = true := by simpa using hc
          clear hE hc
          go_wp2_with (at_builtin; go_must (refine wpl_app _ rfl (.tmp 26) (.tmp 31) 111 rfl 9 i0 (.string ⟨#[]⟩) 16 Tryz.underlying111 hi hz0 hz1 hz2 rfl w.heap.size _ (ss (P.map Plain.txt)) rfl (ho.alloc _) _ rfl [.string (s.extract f k)] (Sl.one _ _ _) (one_strv _) c2 c3 (c4 _) ?_); intro v3 w3 ho3 hb3 hg3)
          rw [← HS.out] at ho3
          have hb4 : Below w.heap.size w w3 := (hb.alloc hsz _).trans hb3
          go_roundw
          case rel => exact ⟨k + 1, k + 1, P ++ [((sb s).drop f).take (k - f)], by go_num, by go_num, by simp; omega, by omega, .inl ⟨by omega, by omega, HN.out⟩, ho3, hb4⟩
          case measure => simp [intOf]; omega
        · rw [if_neg hc, ← cur_snoc hf HG.out] at hE
          have HN : Hid (P ++ splitL b (((sb s).drop f).take (k + 1 - f)) ((sb s).drop (k + 1)) = split b (sb s)) := hE
          have hd2 : ((s[k].toNat : Int) == b) = false := by simpa using hc
          clear hE hc
          go_wp2
          go_roundw
          case rel => exact ⟨k + 1, f, P, by go_num, by go_num, by omega, by omega, .inl ⟨by omega, by omega, HN.out⟩, ho, hb⟩
          case measure => simp [intOf]; omega
    · have HN : Hid (P = split b (sb s)) := by
        rcases HI.out with h | h
        · omega
        · exact h.2
      go_wp2
      go_ret
      exact ⟨_, rfl, by show Own _ _ _ _ _ (ss ((split b (sb s)).map Plain.txt)); rw [← HN.out]; exact ho, hb⟩

end Go.Proofs.YtlhmemnaiobgkaaGreatDoor.Ver

/- Chapter 3, the specification's side: what stands behind a version; versions that are right; a number's text. -/
namespace Go.Proofs.YtlhmemnaiobgkaaGreatDoor.Ver
open Go.RowKit Go.Proofs.YtlhmemnaiobgkaaGreatDoor.Mem Go.Proofs.YtlhmemnaiobgkaaGreatDoor.Laws Go.Proofs.YtlhmemnaiobgkaaGreatDoor.Bytes Go.Proofs.YtlhmemnaiobgkaaGreatDoor.Sha
set_option linter.unusedVariables false
set_option linter.unusedSimpArgs false

/-- one to four parts -/
def pre (l : List Int) : Bool := (split 46 l).all part && decide ((split 46 l).length ≤ 4)

theorem ownForm {w : World} {lo hi : Nat} {e : TypeId} {v : Value} {cs : List Value} (h : Own w lo hi e v cs) (hp : 0 < cs.length) :
    ∃ g cap, v = .slice (some ⟨g, 0, none⟩) cs.length cap ∧ lo ≤ g ∧ g < hi ∧ cs.length ≤ cap ∧ ∀ j, j < cs.length → w.cell? ⟨g, j, none⟩ = cs[j]? := by
  have hsl := h.sl
  obtain ⟨⟨h1, h2⟩, h3⟩ := h
  rcases h2 with ⟨rfl, h0⟩ | ⟨g, cap, cur, rfl, hb, hg, hnc, hcm, hcs, ht⟩
  · omega
  · refine ⟨g, cap, rfl, hb, h3 g rfl, hnc, ?_⟩
    obtain ⟨ao, cap', he, _, _, hr⟩ := hsl
    obtain ⟨b, off, hao, hcell⟩ := hr hp
    simp only [Value.slice.injEq] at he
    rw [← he.1] at hao
    simp only [Option.some.injEq, Addr.mk.injEq, and_true] at hao
    obtain ⟨rfl, rfl⟩ := hao
    intro j hj
    have := hcell j hj
    rw [Nat.zero_add] at this
    exact this
theorem splitL_pos (b : Int) : ∀ (l cur : List Int), 0 < (splitL b cur l).length := by
  intro l
  induction l with
  | nil => intro cur; simp [splitL]
  | cons c r ih => intro cur; unfold splitL; split; simp; exact ih _
theorem splitL_byt (b : Int) : ∀ (l cur : List Int), Byt l → Byt cur → ∀ p ∈ splitL b cur l, Byt p := by
  intro l
  induction l with
  | nil => intro cur hl hc p hp; simp [splitL] at hp; rw [hp]; exact hc
  | cons c r ih =>
    intro cur hl hc p hp
    have hr : Byt r := fun x hx => hl x (List.mem_cons_of_mem _ hx)
    unfold splitL at hp
    split at hp
    · rcases List.mem_cons.1 hp with rfl | hp
      · exact hc
      · exact ih [] hr (fun x hx => (by cases hx)) p hp
    · refine ih _ hr (hc.app fun x hx => ?_) p hp
      rw [List.mem_singleton] at hx
      rw [hx]
      exact hl c (List.mem_cons_self ..)
theorem sb_txtv {l : List Int} (h : Byt l) : sb (Plain.txt l) = l := by
  unfold sb Plain.txt Plain.u8s
  simp only [List.map_map]
  have e : ∀ x ∈ l, ((fun b : UInt8 => (b.toNat : Int)) ∘ fun x : Int => UInt8.ofNat x.toNat) x = x := fun x hx => Plain.u8_back (h x hx)
  rw [List.map_congr_left e]
  simp
theorem splitT_sb (b : Int) (s : ByteArray) : (splitT b s).map sb = split b (sb s) := by
  unfold splitT
  rw [List.map_map]
  conv => rhs; rw [← List.map_id (split b (sb s))]
  apply List.map_congr_left
  intro p hp
  exact sb_txtv (splitL_byt b (sb s) [] (sb_byt s) (fun x hx => (by cases hx)) p hp)
theorem splitL_size (b : Int) : ∀ (l cur : List Int), ∀ p ∈ splitL b cur l, p.length ≤ cur.length + l.length := by
  intro l
  induction l with
  | nil => intro cur p hp; simp [splitL] at hp; rw [hp]; simp
  | cons c r ih =>
    intro cur p hp
    unfold splitL at hp
    split at hp
    · rcases List.mem_cons.1 hp with rfl | hp
      · simp
      · have := ih [] p hp; simp at this; simp; omega
    · have := ih _ p hp; simp at this; simp; omega
theorem splitT_size (b : Int) (s : ByteArray) : ∀ t ∈ splitT b s, t.size ≤ s.size := by
  intro t ht
  unfold splitT at ht
  obtain ⟨p, hp, rfl⟩ := List.mem_map.1 ht
  have := splitL_size b (sb s) [] p hp
  rw [sb_len] at this
  show (Plain.txt p).data.size ≤ _
  simp [Plain.txt, Plain.u8s]
  simpa using this

set_option maxRecDepth 1000000 in
set_option maxHeartbeats 1000000 in
theorem pre_spec (w : World) (s : ByteArray) (hs : s.size ≤ 1000000000000) :
    Calls Tryz.prog 117 #[.string s] w fun e w' => e = .returned (.bool (pre (sb s))) ∧ Below w.heap.size w w' := by
  go_enter Tryz.func117, Tryz.ntmps117
  go_wp2_with fail
  refine (split_spec w s 46 (by omega) (by omega) hs).mono ?_
  rintro e w1 ⟨v1, rfl, o1, b1⟩
  obtain ⟨T, hT⟩ : ∃ T, T = splitT 46 s := ⟨_, rfl⟩
  have hTs := splitT_size 46 s
  have hTl := splitT_len 46 s
  have hTm := splitT_sb 46 s
  rw [← hT] at o1 hTs hTl hTm
  have hT0 : 0 < T.length := by
    have := splitL_pos 46 (sb s) []
    have h2 : T.length = (split 46 (sb s)).length := by rw [← hTm, List.length_map]
    rw [h2]; exact this
  have HP : Hid (pre (sb s) = (T.all (fun t => part (sb t)) && decide (T.length ≤ 4))) := by
    show _ = _
    unfold pre
    rw [← hTm, List.all_map, List.length_map]
    rfl
  obtain ⟨g, cap, rfl, hg1, hg2, hcap, hc⟩ := ownForm o1 (by rw [ss_len]; exact hT0)
  rw [ss_len] at hcap hc
  rw [ss_len]
  have HC : Hid (∀ j, j < T.length → w1.cell? ⟨g, j, none⟩ = (ss T)[j]?) := hc
  have HTs : Hid (∀ t ∈ T, t.size ≤ s.size) := hTs
  clear hT hTs hTm hc o1
  go_wp2
  go_loopw [4] (fun i wr => ∃ k : Nat, k ≤ T.length ∧ i = .int .i64 (k : Int) ∧ Hid ((T.take k).all (fun t => part (sb t)) = true) ∧ w1 = wr) (fun i _ => T.length - (intOf i).toNat)
  case atStart => exact ⟨0, Nat.zero_le _, rfl, rfl, by first | rfl | trivial⟩
  case round =>
    obtain ⟨k, hk, rfl, HA, rfl⟩ := hrel
    by_cases hlt : k < T.length
    · obtain ⟨t, ht⟩ : ∃ t, T[k]? = some t := ⟨T[k], by simp [hlt]⟩
      have hcell : w1.cell? ⟨g, k, none⟩ = some (.string t) := by rw [HC.out k hlt, ss_get, ht]; rfl
      have htm := HTs.out t (List.mem_of_getElem? ht)
      have HT : Hid (T[k]? = some t) := ht
      have q := part_spec w1 t (by omega)
      obtain ⟨pb, hpb⟩ : ∃ b, part (sb t) = b := ⟨_, rfl⟩
      have HB : Hid (part (sb t) = pb) := hpb
      rw [hpb] at q
      clear ht hpb
      cases pb
      · have HN : Hid (pre (sb s) = false) := by
          show _ = _
          rw [HP.out]
          have : T.all (fun t => part (sb t)) = false := by
            rw [List.all_eq_false]
            exact ⟨t, List.mem_of_getElem? HT.out, by simp [HB.out]⟩
          rw [this]; rfl
        go_wp2_with (go_at_call 133; refine q.mono ?_; rintro e w' ⟨rfl, rfl⟩)
        go_ret
        exact ⟨by rw [HN.out]; rfl, b1⟩
      · have HN : Hid ((T.take (k + 1)).all (fun t => part (sb t)) = true) := by
          show _ = _
          rw [List.take_succ_eq_append_getElem hlt, List.all_append, HA.out]
          have : T[k] = t := by have := HT.out; rw [List.getElem?_eq_getElem hlt] at this; simpa using this
          simp [this, HB.out]
        go_wp2_with (go_at_call 133; refine q.mono ?_; rintro e w' ⟨rfl, rfl⟩)
        go_roundw
        case rel => exact ⟨k + 1, by omega, by go_num, HN, by first | rfl | trivial⟩
        case measure => simp [intOf]; omega
    · have HN : Hid (pre (sb s) = decide ((T.length : Int) ≤ 4)) := by
        show _ = _
        have h1 := HA.out
        rw [List.take_of_length_le (by omega)] at h1
        rw [HP.out, h1, Bool.true_and, decide_eq_decide]
        omega
      go_wp2
      go_ret
      exact ⟨by rw [HN.out]; rfl, b1⟩

/-- a version as a value -/
def ver (a b c : Int) (p : ByteArray) : Value := .agg #[.int .i64 a, .int .i64 b, .int .i64 c, .string p]
def inM (a : Int) : Bool := decide (0 ≤ a ∧ a ≤ 1000000)
def okV (a b c : Int) (p : ByteArray) : Bool := inM a && inM b && inM c && (decide (p.size = 0) || pre (sb p))

set_option maxRecDepth 1000000 in
set_option maxHeartbeats 1000000 in
theorem ok_spec (w : World) (a b c : Int) (p : ByteArray) (hp : p.size ≤ 1000000000000) :
    Calls Tryz.prog 96 #[ver a b c p] w fun e w' => e = .returned (.bool (okV a b c p)) ∧ Below w.heap.size w w' := by
  obtain ⟨b1, e1⟩ : ∃ x, decide ((0 : Int) ≤ a ∧ a ≤ 1000000) = x := ⟨_, rfl⟩
  obtain ⟨b2, e2⟩ : ∃ x, decide ((0 : Int) ≤ b ∧ b ≤ 1000000) = x := ⟨_, rfl⟩
  obtain ⟨b3, e3⟩ : ∃ x, decide ((0 : Int) ≤ c ∧ c ≤ 1000000) = x := ⟨_, rfl⟩
  obtain ⟨b4, e4⟩ : ∃ x, decide (p.size = 0) = x := ⟨_, rfl⟩
  have he : p.toList.isEmpty = b4 := by rw [toList_empty, e4]
  obtain ⟨b5, e5⟩ : ∃ x, pre (sb p) = x := ⟨_, rfl⟩
  have HO : Hid (okV a b c p = (b1 && b2 && b3 && (b4 || b5))) := by show _ = _; unfold okV inM; rw [e1, e2, e3, e4, e5]
  have q := pre_spec (w.alloc (.cells #[.int .i64 a, .int .i64 b, .int .i64 c, .string p] 32)) p hp
  rw [e5] at q
  have hB : Below w.heap.size w (w.alloc (.cells #[.int .i64 a, .int .i64 b, .int .i64 c, .string p] 32)) := (Below.refl _ _).alloc (Nat.le_refl _) _
  have HB : Hid _ := hB
  clear e4 e5 hB
  unfold ver
  cases b1
  · go_enter Tryz.func96, Tryz.ntmps96
    go_wp2_with (go_at_call 109; refine (in_spec _ _ _ _).mono ?_; rintro e w' ⟨rfl, rfl⟩; first | rw [e1] | rw [e2] | rw [e3])
    go_ret
    exact ⟨by rw [HO.out]; rfl, HB.out⟩
  · cases b2
    · go_enter Tryz.func96, Tryz.ntmps96
      go_wp2_with (go_at_call 109; refine (in_spec _ _ _ _).mono ?_; rintro e w' ⟨rfl, rfl⟩; first | rw [e1] | rw [e2] | rw [e3])
      go_ret
      exact ⟨by rw [HO.out]; rfl, HB.out⟩
    · cases b3
      · go_enter Tryz.func96, Tryz.ntmps96
        go_wp2_with (go_at_call 109; refine (in_spec _ _ _ _).mono ?_; rintro e w' ⟨rfl, rfl⟩; first | rw [e1] | rw [e2] | rw [e3])
        go_ret
        exact ⟨by rw [HO.out]; rfl, HB.out⟩
      · cases b4
        · go_enter Tryz.func96, Tryz.ntmps96
          go_wp2_with (first | (go_at_call 109; refine (in_spec _ _ _ _).mono ?_; rintro e w' ⟨rfl, rfl⟩; first | rw [e1] | rw [e2] | rw [e3]) | (go_at_call 117; refine q.mono ?_; rintro e w' ⟨rfl, bq⟩))
          go_ret
          exact ⟨by rw [HO.out]; rfl, HB.out.trans (bq.mono (by simp))⟩
        · go_enter Tryz.func96, Tryz.ntmps96
          go_wp2_with (go_at_call 109; refine (in_spec _ _ _ _).mono ?_; rintro e w' ⟨rfl, rfl⟩; first | rw [e1] | rw [e2] | rw [e3])
          go_ret
          exact ⟨by rw [HO.out]; rfl, HB.out⟩

end Go.Proofs.YtlhmemnaiobgkaaGreatDoor.Ver

/- Chapter 3, the specification's side: a number's text, a version's text. -/
namespace Go.Proofs.YtlhmemnaiobgkaaGreatDoor.Ver
open Go.RowKit Go.Proofs.YtlhmemnaiobgkaaGreatDoor.Mem Go.Proofs.YtlhmemnaiobgkaaGreatDoor.Laws Go.Proofs.YtlhmemnaiobgkaaGreatDoor.Bytes Go.Proofs.YtlhmemnaiobgkaaGreatDoor.Sha
set_option linter.unusedVariables false
set_option linter.unusedSimpArgs false

/-- a number's digits (at most f + 1 of them) -/
def digF : Nat → Nat → List Int
  | 0, n => [48 + (n : Int)]
  | f + 1, n => if n < 10 then [48 + (n : Int)] else digF f (n / 10) ++ [48 + ((n % 10 : Nat) : Int)]
theorem digF_byt (f : Nat) : ∀ n, n < 10 ^ (f + 1) → Byt (digF f n) := by
  induction f with
  | zero => intro n hn x hx; simp [digF] at hx; omega
  | succ f ih =>
    intro n hn
    unfold digF
    split
    · intro x hx; simp at hx; omega
    · refine (ih _ ?_).app (fun x hx => ?_)
      · rw [Nat.pow_succ] at hn; omega
      · rw [List.mem_singleton] at hx; omega
theorem digF_len (f : Nat) : ∀ n, 1 ≤ (digF f n).length ∧ (digF f n).length ≤ f + 1 := by
  induction f with
  | zero => intro n; simp [digF]
  | succ f ih =>
    intro n
    unfold digF
    split
    · simp
    · have := ih (n / 10); simp; omega
theorem txt_app (a b : List Int) : Plain.txt (a ++ b) = Plain.txt a ++ Plain.txt b := by
  apply ByteArray.ext
  rw [ByteArray.data_append]
  simp [Plain.txt, Plain.u8s]

theorem txt_sizev (l : List Int) : (Plain.txt l).size = l.length := by
  show (Plain.txt l).data.size = _
  simp [Plain.txt, Plain.u8s]

theorem conv_new (W : World) (x : Int) (h0 : 0 ≤ x) (h1 : x ≤ 255) : (convert 22 9 (.slice (some ⟨W.heap.size, 0, none⟩) 1 1)).run Tryz.prog (W.alloc (.cells #[.int .u8 x] 5)) = .ok (.string (Plain.txt [x])) (W.alloc (.cells #[.int .u8 x] 5)) :=
  conv_sl (zs := [x]) (Sl.one W (.int .u8 x) 5) (fun y hy => by rw [List.mem_singleton] at hy; omega)
theorem conv_late {W w5 : World} {x : Int} (h0 : 0 ≤ x) (h1 : x ≤ 255) (b5 : Below (W.alloc (.cells #[.int .u8 x] 5)).drew.heap.size (W.alloc (.cells #[.int .u8 x] 5)).drew w5) : (convert 22 9 (.slice (some ⟨W.heap.size, 0, none⟩) 1 1)).run Tryz.prog w5 = .ok (.string (Plain.txt [x])) w5 :=
  conv_sl (zs := [x]) (Sl.later (w := (W.alloc (.cells #[.int .u8 x] 5)).drew) (Sl.one W (.int .u8 x) 5) b5) (fun y hy => by rw [List.mem_singleton] at hy; omega)

theorem keepCell {W W' : World} {p : Addr} {x : Value} (h : W.cell? p = some x) (b : Below W.heap.size W W') : W'.cell? p = some x := by
  rw [b.cell (World.block_lt_of_cell? W p h)]; exact h
theorem txt_sbv (s : ByteArray) : Plain.txt (sb s) = s := by
  apply ByteArray.ext
  apply Array.ext'
  show Plain.u8s (sb s) = _
  exact u8s_sb s

/-- a version's text -/
def vt (a b c : Int) (p : ByteArray) : List Int := [118] ++ digF 6 a.toNat ++ [46] ++ digF 6 b.toNat ++ [46] ++ digF 6 c.toNat ++ (if p.size = 0 then [] else [45] ++ sb p)
def verText (a b c : Int) (p : ByteArray) : List Int := if okV a b c p = true then vt a b c p else []

theorem inM_nat {a : Int} (h : inM a = true) : ∃ n : Nat, a = (n : Int) ∧ n ≤ 1000000 := by
  unfold inM at h
  have := of_decide_eq_true h
  exact ⟨a.toNat, by omega, by omega⟩

end Go.Proofs.YtlhmemnaiobgkaaGreatDoor.Ver

/- Chapter 3, the specification's side: a version's text. -/
namespace Go.Proofs.YtlhmemnaiobgkaaGreatDoor.Ver
set_option linter.unusedVariables false
set_option linter.unusedSimpArgs false
open Go.RowKit Go.Proofs.YtlhmemnaiobgkaaGreatDoor.Mem Go.Proofs.YtlhmemnaiobgkaaGreatDoor.Laws Go.Proofs.YtlhmemnaiobgkaaGreatDoor.Bytes Go.Proofs.YtlhmemnaiobgkaaGreatDoor.Sha

end Go.Proofs.YtlhmemnaiobgkaaGreatDoor.Ver

/- Chapter 3, the specification's side: which of two versions is less. -/
namespace Go.Proofs.YtlhmemnaiobgkaaGreatDoor.Ver
set_option linter.unusedVariables false
set_option linter.unusedSimpArgs false
open Go.RowKit Go.Proofs.YtlhmemnaiobgkaaGreatDoor.Mem Go.Proofs.YtlhmemnaiobgkaaGreatDoor.Laws Go.Proofs.YtlhmemnaiobgkaaGreatDoor.Bytes Go.Proofs.YtlhmemnaiobgkaaGreatDoor.Sha

/-- two texts: byte by byte less; the same -/
def ltT (a b : ByteArray) : Bool := Op.bytesLess a.toList b.toList
def eqT (a b : ByteArray) : Bool := a.toList == b.toList
def lessPart (a b : ByteArray) : Bool :=
  if 0 ≤ number (sb a) then (if 0 ≤ number (sb b) then decide (number (sb a) < number (sb b)) else true) else (if 0 ≤ number (sb b) then false else ltT a b)
def lessL : List ByteArray → List ByteArray → Bool
  | [], [] => false
  | [], _ :: _ => true
  | _ :: _, [] => false
  | t :: r, u :: q => if eqT t u = true then lessL r q else lessPart t u
def lessPre (a b : ByteArray) : Bool := lessL (splitT 46 a) (splitT 46 b)

theorem quiet_eqv {P : Program} {f : FuncId} {args : Array Value} {w : World} {n : Nat} {v : Value}
    (h : Calls P f args (w.drewN n) fun e w' => e = .returned v ∧ w.drewN n = w') : Calls P f args (w.drewN n) fun e w'' => e = .returned v ∧ ∃ m, w'' = w.drewN m :=
  h.mono fun _ _ ⟨he, hm⟩ => ⟨he, n, hm.symm⟩

set_option maxRecDepth 1000000 in
set_option maxHeartbeats 1000000 in
theorem lessPart_spec (w : World) (a b : ByteArray) (ha : a.size ≤ 10000000000000) (hb : b.size ≤ 10000000000000) :
    Calls Tryz.prog 121 #[.string a, .string b] w fun e w' => e = .returned (.bool (lessPart a b)) ∧ w = w' := by
  have q1 := number_spec w a ha
  have q2 := number_spec w b hb
  have hl : Op.bytesLess a.toList b.toList = ltT a b := rfl
  have HL : Hid (lessPart a b = if 0 ≤ number (sb a) then (if 0 ≤ number (sb b) then decide (number (sb a) < number (sb b)) else true) else (if 0 ≤ number (sb b) then false else ltT a b)) := rfl
  obtain ⟨x, hx⟩ : ∃ x, number (sb a) = x := ⟨_, rfl⟩
  obtain ⟨y, hy⟩ : ∃ y, number (sb b) = y := ⟨_, rfl⟩
  rw [hx] at q1 HL
  rw [hy] at q2 HL
  clear hx hy
  go_enter Tryz.func121, Tryz.ntmps121
  go_wp2_with fail
  refine q1.mono ?_
  rintro e w' ⟨rfl, rfl⟩
  go_wp2_with fail
  refine q2.mono ?_
  rintro e w' ⟨rfl, rfl⟩
  clear q1 q2
  by_cases h1 : 0 ≤ x
  · have d1 : decide (0 ≤ x) = true := by simpa using h1
    by_cases h2 : 0 ≤ y
    · have d2 : decide (0 ≤ y) = true := by simpa using h2
      have HF : Hid (lessPart a b = decide (x < y)) := by show _ = _; rw [HL.out, if_pos h1, if_pos h2]
      clear HL h1 h2
      go_wp2
      go_ret
      exact ⟨by rw [HF.out]; rfl, rfl⟩
    · have d2 : decide (0 ≤ y) = false := by simpa using h2
      have HF : Hid (lessPart a b = true) := by show _ = _; rw [HL.out, if_pos h1, if_neg h2]
      clear HL h1 h2
      go_wp2
      go_ret
      exact ⟨by rw [HF.out]; rfl, rfl⟩
  · have d1 : decide (0 ≤ x) = false := by simpa using h1
    by_cases h2 : 0 ≤ y
    · have d2 : decide (0 ≤ y) = true := by simpa using h2
      have HF : Hid (lessPart a b = false) := by show _ = _; rw [HL.out, if_neg h1, if_pos h2]
      clear HL h1 h2
      go_wp2
      go_ret
      exact ⟨by rw [HF.out]; rfl, rfl⟩
    · have d2 : decide (0 ≤ y) = false := by simpa using h2
      have HF : Hid (lessPart a b = ltT a b) := by show _ = _; rw [HL.out, if_neg h1, if_neg h2]
      clear HL h1 h2
      go_wp2
      go_ret
      exact ⟨by rw [HF.out]; rfl, rfl⟩

theorem drop_consS {l : List ByteArray} {k : Nat} {c : ByteArray} (hc : l[k]? = some c) : l.drop k = c :: l.drop (k + 1) := by
  obtain ⟨hk, rfl⟩ := List.getElem?_eq_some_iff.1 hc
  rw [List.drop_eq_getElem_cons hk]
theorem splitT_pos (b : Int) (s : ByteArray) : 0 < (splitT b s).length := by
  unfold splitT
  rw [List.length_map]
  exact splitL_pos b (sb s) []
theorem lessL_end {T U : List ByteArray} {k : Nat} (h : T.length ≤ k ∨ U.length ≤ k) : lessL (T.drop k) (U.drop k) = decide ((T.drop k).length < (U.drop k).length) := by
  rcases h with h | h
  · rw [List.drop_eq_nil_of_le h]
    cases U.drop k with
    | nil => rfl
    | cons x r => simp [lessL]
  · rw [List.drop_eq_nil_of_le h]
    cases T.drop k with
    | nil => rfl
    | cons x r => simp [lessL]

set_option maxRecDepth 1000000 in
set_option maxHeartbeats 2000000 in
theorem lessPre_spec (w : World) (a b : ByteArray) (ha : a.size ≤ 1000000000000) (hb : b.size ≤ 1000000000000) :
    Calls Tryz.prog 101 #[.string a, .string b] w fun e w' => e = .returned (.bool (lessPre a b)) ∧ Below w.heap.size w w' := by
  go_enter Tryz.func101, Tryz.ntmps101
  go_wp2_with fail
  refine (split_spec w a 46 (by omega) (by omega) ha).mono ?_
  rintro e w1 ⟨v1, rfl, o1, b1⟩
  go_wp2_with fail
  refine (split_spec w1 b 46 (by omega) (by omega) hb).mono ?_
  rintro e w2 ⟨v2, rfl, o2, b2⟩
  have o1' := o1.later b2 (Nat.le_refl _)
  have hBw : Below w.heap.size w w2 := b1.trans (b2.mono b1.size)
  have HP : Hid (lessPre a b = lessL (splitT 46 a) (splitT 46 b)) := rfl
  have hT0 := splitT_pos 46 a
  have hU0 := splitT_pos 46 b
  have hTs := splitT_size 46 a
  have hUs := splitT_size 46 b
  have hTl := splitT_len 46 a
  have hUl := splitT_len 46 b
  obtain ⟨T, hT⟩ : ∃ T, splitT 46 a = T := ⟨_, rfl⟩
  obtain ⟨U, hU⟩ : ∃ U, splitT 46 b = U := ⟨_, rfl⟩
  rw [hT] at o1' HP hT0 hTs hTl
  rw [hU] at o2 HP hU0 hUs hUl
  obtain ⟨g, cap, rfl, hg1, hg2, hcap, hc⟩ := ownForm o1' (by rw [ss_len]; exact hT0)
  obtain ⟨g', cap', rfl, hg1', hg2', hcap', hc'⟩ := ownForm o2 (by rw [ss_len]; exact hU0)
  rw [ss_len] at hcap hc hcap' hc'
  rw [ss_len, ss_len]
  have HC : Hid ((∀ j, j < T.length → w2.cell? ⟨g, j, none⟩ = (ss T)[j]?) ∧ (∀ j, j < U.length → w2.cell? ⟨g', j, none⟩ = (ss U)[j]?) ∧ (∀ t ∈ T, t.size ≤ a.size) ∧ ∀ t ∈ U, t.size ≤ b.size) := ⟨hc, hc', hTs, hUs⟩
  clear hT hU hTs hUs hc hc' o1 o1' o2
  go_wp2
  go_loopw [7] (fun i wr => ∃ (k m : Nat), k ≤ T.length ∧ k ≤ U.length ∧ i = .int .i64 (k : Int) ∧ Hid (lessL (T.drop k) (U.drop k) = lessL T U) ∧ wr = w2.drewN m) (fun i _ => T.length - (intOf i).toNat)
  case atStart => exact ⟨0, 0, Nat.zero_le _, Nat.zero_le _, rfl, rfl, rfl⟩
  case round =>
    obtain ⟨k, m, hk1, hk2, rfl, HE, rfl⟩ := hrel
    by_cases h1 : k < T.length
    · have d1 : decide ((k : Int) < (T.length : Int)) = true := by simp; omega
      by_cases h2 : k < U.length
      · have d2 : decide ((k : Int) < (U.length : Int)) = true := by simp; omega
        obtain ⟨t, ht⟩ : ∃ t, T[k]? = some t := ⟨T[k], by simp [h1]⟩
        obtain ⟨u, hu⟩ : ∃ u, U[k]? = some u := ⟨U[k], by simp [h2]⟩
        have c1 : w2.cell? ⟨g, k, none⟩ = some (.string t) := by rw [HC.out.1 k h1, ss_get, ht]; rfl
        have c2 : w2.cell? ⟨g', k, none⟩ = some (.string u) := by rw [HC.out.2.1 k h2, ss_get, hu]; rfl
        have z1 := HC.out.2.2.1 t (List.mem_of_getElem? ht)
        have z2 := HC.out.2.2.2 u (List.mem_of_getElem? hu)
        have HE2 : Hid (lessL T U = if eqT t u = true then lessL (T.drop (k + 1)) (U.drop (k + 1)) else lessPart t u) := by
          show _ = _; rw [← HE.out, drop_consS ht, drop_consS hu, lessL]
        have v0 : (0 : Int) ≤ (k : Int) := by omega
        have v1 : (k : Int) < (T.length : Int) := by omega
        have v2 : (k : Int) < (U.length : Int) := by omega
        clear ht hu HE
        by_cases he : eqT t u = true
        · have he' : (t.toList == u.toList) = true := he
          have HN : Hid (lessL (T.drop (k + 1)) (U.drop (k + 1)) = lessL T U) := by show _ = _; rw [HE2.out, if_pos he]
          clear he HE2
          go_wp2_with fail
          go_quiet (fail)
          generalize nq = N1
          go_wp2
          go_roundw
          case rel => exact ⟨k + 1, m + N1, by omega, by omega, by go_num, HN, by first | rfl | (rw [World.drewN_drewN])⟩
          case measure => simp [intOf]; omega
        · have he' : (t.toList == u.toList) = false := by simpa [eqT] using he
          have HN : Hid (lessPre a b = lessPart t u) := by show _ = _; rw [HP.out, HE2.out, if_neg he]
          have q : ∀ W, _ := fun W => lessPart_spec W t u (by omega) (by omega)
          clear he HE2
          go_wp2_with fail
          go_quiet (fail)
          generalize nq = N1
          go_wp2_with fail
          obtain ⟨wz, hwz⟩ : ∃ z, z = (w2.drewN m).drewN N1 := ⟨_, rfl⟩
          have c1' : wz.cell? ⟨g, k, none⟩ = some (.string t) := by rw [hwz]; exact c1
          have c2' : wz.cell? ⟨g', k, none⟩ = some (.string u) := by rw [hwz]; exact c2
          have hbz : Below w.heap.size w wz := by rw [hwz]; exact below_drewN (below_drewN hBw _) _
          rw [← hwz]
          clear hwz c1 c2 hBw HC
          go_quiet ((go_at_call 121; exact quiet_eqv (q _)))
          generalize nq = N2
          go_wp2
          go_ret
          exact ⟨by rw [HN.out]; rfl, below_drewN hbz _⟩
      · have d2 : decide ((k : Int) < (U.length : Int)) = false := by simp; omega
        have HN : Hid (lessPre a b = decide (T.length < U.length)) := by
          show _ = _
          rw [HP.out, ← HE.out, lessL_end (.inr (by omega)), decide_eq_decide, List.length_drop, List.length_drop]
          omega
        go_wp2
        go_ret
        exact ⟨by rw [HN.out]; rfl, below_drewN hBw _⟩
    · have d1 : decide ((k : Int) < (T.length : Int)) = false := by simp; omega
      have HN : Hid (lessPre a b = decide (T.length < U.length)) := by
        show _ = _
        rw [HP.out, ← HE.out, lessL_end (.inl (by omega)), decide_eq_decide, List.length_drop, List.length_drop]
        omega
      go_wp2
      go_ret
      exact ⟨by rw [HN.out]; rfl, below_drewN hBw _⟩

end Go.Proofs.YtlhmemnaiobgkaaGreatDoor.Ver

/- Chapter 3, the specification's side: versions in order, and what is bumped. -/
namespace Go.Proofs.YtlhmemnaiobgkaaGreatDoor.Ver
set_option linter.unusedVariables false
set_option linter.unusedSimpArgs false
open Go.RowKit Go.Proofs.YtlhmemnaiobgkaaGreatDoor.Mem Go.Proofs.YtlhmemnaiobgkaaGreatDoor.Laws Go.Proofs.YtlhmemnaiobgkaaGreatDoor.Bytes Go.Proofs.YtlhmemnaiobgkaaGreatDoor.Sha

def lessV (a1 b1 c1 : Int) (p1 : ByteArray) (a2 b2 c2 : Int) (p2 : ByteArray) : Bool :=
  if a1 ≠ a2 then decide (a1 < a2) else if b1 ≠ b2 then decide (b1 < b2) else if c1 ≠ c2 then decide (c1 < c2)
  else if eqT p1 p2 = true ∨ p1.size = 0 then false else if p2.size = 0 then true else lessPre p1 p2

set_option maxRecDepth 1000000 in
set_option maxHeartbeats 1000000 in
theorem less_spec (w : World) (a1 b1 c1 : Int) (p1 : ByteArray) (a2 b2 c2 : Int) (p2 : ByteArray) (h1 : p1.size ≤ 1000000000000) (h2 : p2.size ≤ 1000000000000) :
    Calls Tryz.prog 81 #[ver a1 b1 c1 p1, ver a2 b2 c2 p2] w fun e w' => e = .returned (.bool (lessV a1 b1 c1 p1 a2 b2 c2 p2)) ∧ Below w.heap.size w w' := by
  have q := lessPre_spec ((w.alloc (.cells #[.int .i64 a1, .int .i64 b1, .int .i64 c1, .string p1] 32)).alloc (.cells #[.int .i64 a2, .int .i64 b2, .int .i64 c2, .string p2] 32)) p1 p2 h1 h2
  have HB : Hid (Below w.heap.size w ((w.alloc (.cells #[.int .i64 a1, .int .i64 b1, .int .i64 c1, .string p1] 32)).alloc (.cells #[.int .i64 a2, .int .i64 b2, .int .i64 c2, .string p2] 32))) := ((Below.refl _ _).alloc (Nat.le_refl _) _).alloc (by simp) _
  have HL : Hid (lessV a1 b1 c1 p1 a2 b2 c2 p2 = if a1 ≠ a2 then decide (a1 < a2) else if b1 ≠ b2 then decide (b1 < b2) else if c1 ≠ c2 then decide (c1 < c2)
    else if eqT p1 p2 = true ∨ p1.size = 0 then false else if p2.size = 0 then true else lessPre p1 p2) := rfl
  unfold ver
  by_cases e1 : a1 = a2
  · have d1 : (a1 != a2) = false := by simpa using e1
    by_cases e2 : b1 = b2
    · have d2 : (b1 != b2) = false := by simpa using e2
      by_cases e3 : c1 = c2
      · have d3 : (c1 != c2) = false := by simpa using e3
        by_cases e4 : eqT p1 p2 = true
        · have d4 : (p1.toList == p2.toList) = true := e4
          have HF : Hid (lessV a1 b1 c1 p1 a2 b2 c2 p2 = false) := by show _ = _; rw [HL.out, if_neg (by simpa using e1), if_neg (by simpa using e2), if_neg (by simpa using e3), if_pos (.inl e4)]
          clear HL e1 e2 e3 e4 q
          go_enter Tryz.func81, Tryz.ntmps81
          go_wp2
          go_ret
          exact ⟨by rw [HF.out]; rfl, HB.out⟩
        · have d4 : (p1.toList == p2.toList) = false := by simpa [eqT] using e4
          by_cases e5 : p1.size = 0
          · have d5 : p1.toList.isEmpty = true := by rw [toList_empty]; simp [e5]
            have HF : Hid (lessV a1 b1 c1 p1 a2 b2 c2 p2 = false) := by show _ = _; rw [HL.out, if_neg (by simpa using e1), if_neg (by simpa using e2), if_neg (by simpa using e3), if_pos (.inr e5)]
            clear HL e1 e2 e3 e4 e5 q
            go_enter Tryz.func81, Tryz.ntmps81
            go_wp2
            go_ret
            exact ⟨by rw [HF.out]; rfl, HB.out⟩
          · have d5 : p1.toList.isEmpty = false := by rw [toList_empty]; simp [e5]
            by_cases e6 : p2.size = 0
            · have d6 : p2.toList.isEmpty = true := by rw [toList_empty]; simp [e6]
              have HF : Hid (lessV a1 b1 c1 p1 a2 b2 c2 p2 = true) := by show _ = _; rw [HL.out, if_neg (by simpa using e1), if_neg (by simpa using e2), if_neg (by simpa using e3), if_neg (by rintro (h | h); exact e4 h; exact e5 h), if_pos e6]
              clear HL e1 e2 e3 e4 e5 e6 q
              go_enter Tryz.func81, Tryz.ntmps81
              go_wp2
              go_ret
              exact ⟨by rw [HF.out]; rfl, HB.out⟩
            · have d6 : p2.toList.isEmpty = false := by rw [toList_empty]; simp [e6]
              have HF : Hid (lessV a1 b1 c1 p1 a2 b2 c2 p2 = lessPre p1 p2) := by show _ = _; rw [HL.out, if_neg (by simpa using e1), if_neg (by simpa using e2), if_neg (by simpa using e3), if_neg (by rintro (h | h); exact e4 h; exact e5 h), if_neg e6]
              clear HL e1 e2 e3 e4 e5 e6
              go_enter Tryz.func81, Tryz.ntmps81
              go_wp2_with (go_at_call 101; refine q.mono ?_; rintro e w5 ⟨rfl, b5⟩)
              go_ret
              exact ⟨by rw [HF.out]; rfl, HB.out.trans (b5.mono (by simp; omega))⟩
      · have d3 : (c1 != c2) = true := by simpa using e3
        have HF : Hid (lessV a1 b1 c1 p1 a2 b2 c2 p2 = decide (c1 < c2)) := by show _ = _; rw [HL.out, if_neg (by simpa using e1), if_neg (by simpa using e2), if_pos e3]
        clear HL e1 e2 e3 q
        go_enter Tryz.func81, Tryz.ntmps81
        go_wp2
        go_ret
        exact ⟨by rw [HF.out]; rfl, HB.out⟩
    · have d2 : (b1 != b2) = true := by simpa using e2
      have HF : Hid (lessV a1 b1 c1 p1 a2 b2 c2 p2 = decide (b1 < b2)) := by show _ = _; rw [HL.out, if_neg (by simpa using e1), if_pos e2]
      clear HL e1 e2 q
      go_enter Tryz.func81, Tryz.ntmps81
      go_wp2
      go_ret
      exact ⟨by rw [HF.out]; rfl, HB.out⟩
  · have d1 : (a1 != a2) = true := by simpa using e1
    have HF : Hid (lessV a1 b1 c1 p1 a2 b2 c2 p2 = decide (a1 < a2)) := by show _ = _; rw [HL.out, if_pos e1]
    clear HL e1 q
    go_enter Tryz.func81, Tryz.ntmps81
    go_wp2
    go_ret
    exact ⟨by rw [HF.out]; rfl, HB.out⟩

end Go.Proofs.YtlhmemnaiobgkaaGreatDoor.Ver
