/- Texts in one: Sha, Ver1, Ver2, Ver3, Ver4, Ver5, Ver6, Ver7. -/
import Derived.Test.YtpfiaginonnjmaaPq2
import Derived.Test.YtpfiaginonnjmaaPq3
import Derived.Test.YtpfiaginonnjmaaPq4
import Derived.Deep.RegionLaw
import Derived.Deep.RegionHeld3
import Derived.Deep.RegionWith
import Derived.BigQuiet
import Derived.Deep.QuietTactic
/- Contracts of the specification's chapter 2: what is padded, hex digits, and digests, as plain functions of lists of numbers. -/
namespace Go.Proofs.Ytpfiaginonnjmaa.Sha
open Go.RowKit Go.Proofs.Ytpfiaginonnjmaa.Mem Go.Proofs.Ytpfiaginonnjmaa.Laws Go.Proofs.Ytpfiaginonnjmaa.Bytes
set_option linter.unusedVariables false
set_option linter.unusedSimpArgs false

/-- how many bytes 0 are padded behind n bytes and the byte 128 -/
def zc (n : Nat) : Nat := (120 - (n + 1) % 64) % 64
/-- a number's eight bytes, the highest first -/
def be8 (n : Nat) : List Int := [((n / 2 ^ 56 % 256 : Nat) : Int), ((n / 2 ^ 48 % 256 : Nat) : Int), ((n / 2 ^ 40 % 256 : Nat) : Int), ((n / 2 ^ 32 % 256 : Nat) : Int), ((n / 2 ^ 24 % 256 : Nat) : Int), ((n / 2 ^ 16 % 256 : Nat) : Int), ((n / 2 ^ 8 % 256 : Nat) : Int), ((n % 256 : Nat) : Int)]
def padded (xs : List Int) : List Int := xs ++ [128] ++ List.replicate (zc xs.length) 0 ++ be8 (xs.length * 8)

theorem be8_get (n t : Nat) (ht : t < 8) : (be8 n)[t]? = some ((n : Int) / 2 ^ (56 - 8 * t) % 256) := by
  rcases (show t = 0 ∨ t = 1 ∨ t = 2 ∨ t = 3 ∨ t = 4 ∨ t = 5 ∨ t = 6 ∨ t = 7 by omega) with rfl | rfl | rfl | rfl | rfl | rfl | rfl | rfl <;> simp [be8]

theorem one_byte (x : Int) : ∀ u ∈ [Value.int .u8 x], u.oneCell' = true := by
  intro u hu
  rw [List.mem_singleton] at hu
  rw [hu]
  rfl

theorem Own.emptyB (w : World) (lo : Nat) (h : lo ≤ w.heap.size) : Own (w.alloc (.cells #[] 5)) lo (w.alloc (.cells #[] 5)).heap.size 5 (.slice (some ⟨w.heap.size, 0, none⟩) 0 0) (bs []) :=
  Own.of (World.ownsRow_lit w #[] 0 h (Nat.zero_le _) rfl)

/-- a hex digit -/
def hexd (d : Int) : Int := if d < 10 then 48 + d else 87 + d
def hexs (xs : List Int) : List Int := xs.flatMap fun c => [hexd (c / 16), hexd (c % 16)]
theorem hexs_app (xs ys : List Int) : hexs (xs ++ ys) = hexs xs ++ hexs ys := by simp [hexs]
theorem hexs_one (c : Int) : hexs [c] = [hexd (c / 16), hexd (c % 16)] := by simp [hexs]
theorem hexs_len (xs : List Int) : (hexs xs).length = 2 * xs.length := by
  induction xs with
  | nil => rfl
  | cons x r ih => rw [show x :: r = [x] ++ r from rfl, hexs_app, hexs_one]; simp [ih]; omega
def lit16 : ByteArray := ⟨#[48, 49, 50, 51, 52, 53, 54, 55, 56, 57, 97, 98, 99, 100, 101, 102]⟩

theorem lit_get (d : Int) (h0 : 0 ≤ d) (h1 : d < 16) (hp : d.toNat < (⟨#[48, 49, 50, 51, 52, 53, 54, 55, 56, 57, 97, 98, 99, 100, 101, 102]⟩ : ByteArray).size) :
    ((((⟨#[48, 49, 50, 51, 52, 53, 54, 55, 56, 57, 97, 98, 99, 100, 101, 102]⟩ : ByteArray)[d.toNat]'hp).toNat : Nat) : Int) = hexd d := by
  rcases (show d = 0 ∨ d = 1 ∨ d = 2 ∨ d = 3 ∨ d = 4 ∨ d = 5 ∨ d = 6 ∨ d = 7 ∨ d = 8 ∨ d = 9 ∨ d = 10 ∨ d = 11 ∨ d = 12 ∨ d = 13 ∨ d = 14 ∨ d = 15 by omega) with rfl | rfl | rfl | rfl | rfl | rfl | rfl | rfl | rfl | rfl | rfl | rfl | rfl | rfl | rfl | rfl <;> rfl

theorem Sl.two (w : World) (a b : Int) (t : TypeId) : Sl (w.alloc (.cells #[.int .u8 a, .int .u8 b] t)) (.slice (some ⟨w.heap.size, 0, none⟩) 2 2) (bs [a, b]) := by
  refine ⟨some ⟨w.heap.size, 0, none⟩, 2, rfl, by simp [bs], fun h => (by cases h), fun _ => ⟨w.heap.size, 0, rfl, fun j hj => ?_⟩⟩
  rw [cell_of_row _ w.heap.size (0 + j) #[.int .u8 a, .int .u8 b] t (0, 0) (heap_alloc_new w _)]
  have h2 : j = 0 ∨ j = 1 := by simp [bs] at hj; omega
  rcases h2 with rfl | rfl <;> simp [bs]

theorem sb_get (s : ByteArray) (k : Nat) (h : k < s.size) : (sb s)[k]? = some ((s[k]'h).toNat : Int) := by
  have h2 : k < s.data.toList.length := by simpa using h
  simp only [sb, List.getElem?_map, List.getElem?_eq_getElem h2, Option.map_some]
  rfl

theorem hexd_byt {d : Int} (h0 : 0 ≤ d) (h1 : d < 16) : 0 ≤ hexd d ∧ hexd d ≤ 255 := by unfold hexd; split <;> omega
theorem hexs_byt (xs : List Int) (h : Byt xs) : Byt (hexs xs) := by
  intro x hx
  obtain ⟨c, hc, hx2⟩ := List.mem_flatMap.1 hx
  have hb := h c hc
  simp only [List.mem_cons, List.not_mem_nil, or_false] at hx2
  rcases hx2 with rfl | rfl
  · exact hexd_byt (by omega) (by omega)
  · exact hexd_byt (by omega) (by omega)

theorem conv_none (ao : Option Addr) (c : Nat) (w : World) : (convert 22 9 (.slice ao 0 c)).run Try.prog w = .ok (.string ⟨#[]⟩) w := by
  cases ao with
  | none => rw [run_convert_bytes_string w 22 9 5 none 0 c Try.underlying22 Try.underlying5 Try.underlying9]; rfl
  | some a => exact run_convert_bytes_back w 22 9 5 a c [] Try.underlying22 Try.underlying5 Try.underlying9 (fun j hj => by simp at hj)

theorem conv_sl {w : World} {v : Value} {zs : List Int} (h : Sl w v (bs zs)) (hb : Byt zs) : (convert 22 9 v).run Try.prog w = .ok (.string (Plain.txt zs)) w := by
  obtain ⟨ao, cap, rfl, hc, _, hr⟩ := h
  rw [bs_len] at hr hc
  rw [bs_len]
  by_cases h0 : zs.length = 0
  · have hz : zs = [] := List.eq_nil_of_length_eq_zero h0
    subst hz
    exact conv_none ao cap w
  · obtain ⟨b, off, rfl, hcell⟩ := hr (by omega)
    have hl : (Plain.u8s zs).length = zs.length := Plain.u8s_len zs
    have h := run_convert_bytes_back (P := Try.prog) w 22 9 5 ⟨b, off, none⟩ cap (Plain.u8s zs) Try.underlying22 Try.underlying5 Try.underlying9 (fun j hj => by
      rw [hl] at hj
      rw [Addr.add_lit, hcell j hj, bs_get]
      have hx : zs[j]? = some (zs[j]'hj) := by simp
      have hy := hb.at hx
      rw [hx]
      simp only [Plain.u8s, List.getElem_map, Option.map_some]
      rw [Plain.u8_back hy])
    rw [hl] at h
    exact h

/-- a hex digit's number; below 0 where it is none -/
def undig (c : Int) : Int := if 48 ≤ c ∧ c ≤ 57 then c - 48 else if 97 ≤ c ∧ c ≤ 102 then c - 87 else -1
theorem undig_bd (c : Int) : -1 ≤ undig c ∧ undig c ≤ 15 := by unfold undig; split <;> (try split) <;> omega

/-- pairs of hex digits as bytes -/
def unhex : List Int → Option (List Int)
  | [] => some []
  | [_] => none
  | a :: b :: r => if undig a < 0 ∨ undig b < 0 then none else (unhex r).map fun l => (undig a * 16 + undig b) :: l

set_option maxRecDepth 1000000 in
set_option maxHeartbeats 1000000 in
theorem in_spec (w : World) (x a b : Int) : Calls Try.prog 71 #[.int .i64 x, .int .i64 a, .int .i64 b] w fun e w' => e = .returned (.bool (decide (a ≤ x ∧ x ≤ b))) ∧ w = w' := by
  by_cases h1 : a ≤ x
  · have hd1 : decide (a ≤ x) = true := by simpa using h1
    by_cases h2 : x ≤ b
    · have hd2 : decide (x ≤ b) = true := by simpa using h2
      go_enter Try.func71, Try.ntmps71
      go_wp2
      go_ret
      exact ⟨by simp [h1, h2], rfl⟩
    · have hd2 : decide (x ≤ b) = false := by simpa using h2
      go_enter Try.func71, Try.ntmps71
      go_wp2
      go_ret
      exact ⟨by simp [h1, h2], rfl⟩
  · have hd1 : decide (a ≤ x) = false := by simpa using h1
    go_enter Try.func71, Try.ntmps71
    go_wp2
    go_ret
    exact ⟨by simp [h1], rfl⟩

/-- What UnHex answers. -/
def unHex (s : ByteArray) : ByteArray × Bool := match unhex (sb s) with
  | some l => (Plain.txt l, true)
  | none => (⟨#[]⟩, false)
theorem unHex_none {s : ByteArray} (h : unhex (sb s) = none) : unHex s = (⟨#[]⟩, false) := by unfold unHex; rw [h]
theorem unHex_some {s : ByteArray} {l : List Int} (h : unhex (sb s) = some l) : unHex s = (Plain.txt l, true) := by unfold unHex; rw [h]

theorem unhex_bad {a b : Int} {r : List Int} (h : undig a < 0 ∨ undig b < 0) : unhex (a :: b :: r) = none := by rw [unhex, if_pos h]
theorem unhex_good {a b : Int} {r : List Int} (h : ¬ (undig a < 0 ∨ undig b < 0)) : unhex (a :: b :: r) = (unhex r).map fun l => (undig a * 16 + undig b) :: l := by rw [unhex, if_neg h]

theorem drop_two {l : List Int} {k : Nat} {a b : Int} (h1 : l[k]? = some a) (h2 : l[k + 1]? = some b) : l.drop k = a :: b :: l.drop (k + 2) := by
  obtain ⟨hk, rfl⟩ := List.getElem?_eq_some_iff.1 h1
  obtain ⟨hk2, rfl⟩ := List.getElem?_eq_some_iff.1 h2
  rw [List.drop_eq_getElem_cons hk, List.drop_eq_getElem_cons hk2]

theorem ret2 {s s' : ByteArray} {c c' : Bool} (h1 : s = s') (h2 : c = c') : Ending.returned (.tuple #[.string s, .bool c]) = .returned (.tuple #[.string s', .bool c']) := by rw [h1, h2]

end Go.Proofs.Ytpfiaginonnjmaa.Sha

/- Chapter 3, the specification's side: digits, numbers, parts of a text, as plain functions of lists of bytes. -/
namespace Go.Proofs.Ytpfiaginonnjmaa.Ver
open Go.RowKit Go.Proofs.Ytpfiaginonnjmaa.Mem Go.Proofs.Ytpfiaginonnjmaa.Laws Go.Proofs.Ytpfiaginonnjmaa.Bytes Go.Proofs.Ytpfiaginonnjmaa.Sha
set_option linter.unusedVariables false
set_option linter.unusedSimpArgs false

/-- a digit -/
def isd (c : Int) : Bool := decide (48 ≤ c ∧ c ≤ 57)
/-- digits alone, and one at least -/
def digs (l : List Int) : Bool := l.all isd && !l.isEmpty
def numv (l : List Int) : Int := l.foldl (fun n c => n * 10 + (c - 48)) 0
/-- a number of at most eight digits without a needless nought; below 0: it is none -/
def number (l : List Int) : Int := if digs l = false ∨ 8 < l.length ∨ (1 < l.length ∧ l.head? = some 48) then -1 else numv l
/-- a sign of a part -/
def psign (c : Int) : Bool := decide (97 ≤ c ∧ c ≤ 122) || decide (65 ≤ c ∧ c ≤ 90) || decide (48 ≤ c ∧ c ≤ 57) || decide (c = 45)
def part (l : List Int) : Bool := l.all psign && decide (1 ≤ l.length ∧ l.length ≤ 8) && (!digs l || decide (0 ≤ number l))

theorem all_take {p : Int → Bool} {l : List Int} {k : Nat} {c : Int} (h : (l.take k).all p = true) (hc : l[k]? = some c) (hp : p c = true) : (l.take (k + 1)).all p = true := by
  rw [take_snoc hc, List.all_append, h]
  simp [hp]
theorem all_bad {p : Int → Bool} {l : List Int} {k : Nat} {c : Int} (hc : l[k]? = some c) (hp : p c = false) : l.all p = false := by
  rw [List.all_eq_false]
  exact ⟨c, List.mem_of_getElem? hc, by simp [hp]⟩

theorem loop_nil (s : ByteArray) (h : s.size = 0) : s.toList = [] := by
  unfold ByteArray.toList
  unfold ByteArray.toList.loop
  simp [h]
theorem loop_ge (s : ByteArray) (n : Nat) : ∀ i r, s.size - i = n → r ≠ [] → ByteArray.toList.loop s i r ≠ [] := by
  induction n with
  | zero => intro i r h hr; unfold ByteArray.toList.loop; rw [if_neg (by omega)]; simpa using hr
  | succ n ih => intro i r h hr; unfold ByteArray.toList.loop; rw [if_pos (by omega)]; exact ih _ _ (by omega) (by simp)
theorem loop_pos (s : ByteArray) (h : 0 < s.size) : s.toList ≠ [] := by
  unfold ByteArray.toList
  unfold ByteArray.toList.loop
  rw [if_pos (by omega)]
  exact loop_ge s _ _ _ rfl (by simp)
theorem toList_empty (s : ByteArray) : s.toList.isEmpty = decide (s.size = 0) := by
  by_cases h : s.size = 0
  · rw [loop_nil s h]; simp [h]
  · have := loop_pos s (by omega)
    rw [List.isEmpty_eq_false_iff.2 this]
    simp [h]
theorem sb_empty (s : ByteArray) : (sb s).isEmpty = decide (s.size = 0) := by
  have h := sb_len s
  cases hb : sb s with
  | nil => rw [hb] at h; simp at h; simp [← h]
  | cons x r =>
    rw [hb] at h
    simp only [List.length_cons] at h
    rw [decide_eq_false (by omega)]
    rfl

set_option maxRecDepth 1000000 in
set_option maxHeartbeats 1000000 in
theorem digits_spec (w : World) (s : ByteArray) (hs : s.size ≤ 10000000000000) : Calls Try.prog 72 #[.string s] w fun e w' => e = .returned (.bool (digs (sb s))) ∧ w = w' := by
  go_enter Try.func72, Try.ntmps72
  go_wp2
  go_loopw [3] (fun i wr => ∃ k : Nat, k ≤ s.size ∧ i = .int .i64 (k : Int) ∧ Hid (((sb s).take k).all isd = true) ∧ w = wr) (fun i _ => s.size - (intOf i).toNat)
  case atStart => exact ⟨0, Nat.zero_le _, rfl, rfl, rfl⟩
  case round =>
    obtain ⟨k, hk, rfl, HA, rfl⟩ := hrel
    by_cases hlt : k < s.size
    · have hg := sb_get s k hlt
      have hcb := (sb_byt s).at hg
      have HG : Hid ((sb s)[k]? = some (s[k].toNat : Int)) := hg
      clear hg
      by_cases hd : isd (s[k].toNat : Int) = true
      · have hd' : decide ((48 : Int) ≤ (s[k].toNat : Int) ∧ (s[k].toNat : Int) ≤ 57) = true := hd
        have HN : Hid (((sb s).take (k + 1)).all isd = true) := all_take HA.out HG.out hd
        clear hd
        go_wp2_with (go_at_call 71; refine (in_spec _ _ _ _).mono ?_; rintro e w' ⟨rfl, rfl⟩; rw [hd'])
        go_roundw
        case rel => exact ⟨k + 1, by omega, by go_num, HN, by first | rfl | trivial⟩
        case measure => simp [intOf]; omega
      · have hd0 : isd (s[k].toNat : Int) = false := by simpa using hd
        have hd' : decide ((48 : Int) ≤ (s[k].toNat : Int) ∧ (s[k].toNat : Int) ≤ 57) = false := hd0
        have HN : Hid (digs (sb s) = false) := by show _ = _; unfold digs; rw [all_bad HG.out hd0]; rfl
        clear hd hd0
        go_wp2_with (go_at_call 71; refine (in_spec _ _ _ _).mono ?_; rintro e w' ⟨rfl, rfl⟩; rw [hd'])
        go_ret
        exact ⟨by rw [HN.out]; rfl, rfl⟩
    · have HN : Hid (digs (sb s) = !(sb s).isEmpty) := by
        show _ = _
        have h1 := HA.out
        rw [List.take_of_length_le (by rw [sb_len]; omega)] at h1
        unfold digs
        rw [h1]
        rfl
      by_cases h0 : s.size = 0
      · have he : s.toList.isEmpty = true := by rw [toList_empty]; simp [h0]
        have HM : Hid (digs (sb s) = false) := by show _ = _; rw [HN.out, sb_empty]; simp [h0]
        go_wp2
        go_ret
        exact ⟨by rw [HM.out]; rfl, rfl⟩
      · have he : s.toList.isEmpty = false := by rw [toList_empty]; simp [h0]
        have HM : Hid (digs (sb s) = true) := by show _ = _; rw [HN.out, sb_empty]; simp [h0]
        go_wp2
        go_ret
        exact ⟨by rw [HM.out]; rfl, rfl⟩

theorem or4 {b1 b2 b3 : Bool} {p : Prop} [Decidable p] (h : false = (b1 || b2 || b3 || decide p)) : b1 = false ∧ b2 = false ∧ b3 = false ∧ ¬ p := by
  cases b1 <;> cases b2 <;> cases b3 <;> simp_all

theorem numv_snoc (l : List Int) (c : Int) : numv (l ++ [c]) = numv l * 10 + (c - 48) := by simp [numv]
theorem numv_bd (n : Nat) : ∀ l : List Int, l.length ≤ n → l.all isd = true → 0 ≤ numv l ∧ numv l < 10 ^ n := by
  induction n with
  | zero => intro l h _; have : l = [] := List.eq_nil_of_length_eq_zero (by omega); subst this; simp [numv]
  | succ n ih =>
    intro l h ha
    rcases List.eq_nil_or_concat l with rfl | ⟨r, c, rfl⟩
    · have : (0 : Int) < 10 ^ (n + 1) := Int.pow_pos (by decide)
      exact ⟨by simp [numv], by simpa [numv] using this⟩
    · rw [List.concat_eq_append] at *
      rw [List.all_append, Bool.and_eq_true] at ha
      have hr := ih r (by simp at h; omega) ha.1
      have hc : 48 ≤ c ∧ c ≤ 57 := by have := ha.2; simp [isd] at this; exact this
      rw [numv_snoc, Int.pow_succ]
      omega

set_option maxRecDepth 1000000 in
set_option maxHeartbeats 1000000 in
theorem number_spec (w : World) (s : ByteArray) (hs : s.size ≤ 10000000000000) : Calls Try.prog 70 #[.string s] w fun e w' => e = .returned (.int .i64 (number (sb s))) ∧ w = w' := by
  have q : ∀ w, _ := fun w => digits_spec w s hs
  obtain ⟨dg, hdg⟩ : ∃ d, digs (sb s) = d := ⟨_, rfl⟩
  rw [hdg] at q
  by_cases hbad : digs (sb s) = false ∨ 8 < (sb s).length ∨ (1 < (sb s).length ∧ (sb s).head? = some 48)
  · have HN : Hid (number (sb s) = -1) := by show _ = _; unfold number; rw [if_pos hbad]
    rw [hdg, sb_len] at hbad
    by_cases h1 : dg = false
    · subst h1
      go_enter Try.func70, Try.ntmps70
      go_wp2_with (go_at_call 72; refine (q _).mono ?_; rintro e w' ⟨rfl, rfl⟩)
      go_ret
      exact ⟨by rw [HN.out]; rfl, rfl⟩
    · have h1' : dg = true := by simpa using h1
      subst h1'
      by_cases h2 : 8 < s.size
      · have hd2 : decide (8 < (s.size : Int)) = true := by simp; omega
        go_enter Try.func70, Try.ntmps70
        go_wp2_with (go_at_call 72; refine (q _).mono ?_; rintro e w' ⟨rfl, rfl⟩)
        go_ret
        exact ⟨by rw [HN.out]; rfl, rfl⟩
      · have h3 : 1 < s.size ∧ (sb s).head? = some 48 := by rcases hbad with h | h | h; cases h; exact absurd h h2; exact h
        have hd2 : decide (8 < (s.size : Int)) = false := by simp; omega
        have hd3 : decide (1 < (s.size : Int)) = true := by simp; omega
        have h0 : 0 < s.size := by omega
        have hg := sb_get s 0 h0
        have hc : (s[0].toNat : Int) = 48 := by
          rw [← List.head?_eq_getElem?] at hg
          rw [h3.2] at hg
          simpa using hg.symm
        have hd4 : ((s[0].toNat : Int) == 48) = true := by simpa using hc
        clear hg hbad
        go_enter Try.func70, Try.ntmps70
        go_wp2_with (go_at_call 72; refine (q _).mono ?_; rintro e w' ⟨rfl, rfl⟩)
        go_ret
        exact ⟨by rw [HN.out]; rfl, rfl⟩
  · have HN : Hid (number (sb s) = numv (sb s)) := by show _ = _; unfold number; rw [if_neg hbad]
    have hdt : digs (sb s) = true := by
      cases h : digs (sb s) with
      | true => rfl
      | false => exact absurd (.inl h) hbad
    have h2 : ¬ 8 < s.size := fun h => hbad (.inr (.inl (by rw [sb_len]; exact h)))
    have HA : Hid ((sb s).all isd = true) := by have := hdt; unfold digs at this; rw [Bool.and_eq_true] at this; exact this.1
    have h1 : dg = true := by rw [← hdg]; exact hdt
    subst h1
    have hd2 : decide (8 < (s.size : Int)) = false := by simp; omega
    have h0 : 0 < s.size := by
      rcases Nat.eq_zero_or_pos s.size with h | h
      · exfalso
        have h4 := hdt
        unfold digs at h4
        rw [sb_empty, decide_eq_true h] at h4
        simp at h4
      · exact h
    have HB : Hid (∀ k, k ≤ 8 → 0 ≤ numv ((sb s).take k) ∧ numv ((sb s).take k) < 10 ^ 8) := fun k hk => by
      have h := numv_bd 8 ((sb s).take k) (by simp; omega) (List.all_eq_true.2 fun x hx => List.all_eq_true.1 HA.out x (List.mem_of_mem_take hx))
      exact h
    by_cases h3 : 1 < s.size
    · have hd3 : decide (1 < (s.size : Int)) = true := by simp; omega
      have hg := sb_get s 0 h0
      have hc : ¬ (s[0].toNat : Int) = 48 := fun hc => hbad (.inr (.inr ⟨by rw [sb_len]; exact h3, by rw [List.head?_eq_getElem?, hg, hc]⟩))
      have hd4 : ((s[0].toNat : Int) == 48) = false := by simpa using hc
      clear hg hc hbad hdg hdt
      go_enter Try.func70, Try.ntmps70
      go_wp2_with (go_at_call 72; refine (q _).mono ?_; rintro e w' ⟨rfl, rfl⟩)
      go_loopw [3, 4] (fun n i wr => ∃ k : Nat, k ≤ s.size ∧ i = .int .i64 (k : Int) ∧ n = .int .i64 (numv ((sb s).take k)) ∧ w = wr) (fun _ i _ => s.size - (intOf i).toNat)
      case atStart => exact ⟨0, Nat.zero_le _, rfl, rfl, by first | rfl | trivial⟩
      case round =>
        obtain ⟨k, hk, rfl, rfl, rfl⟩ := hrel
        clear q
        by_cases hlt : k < s.size
        · have hg := sb_get s k hlt
          have hcb : 48 ≤ (s[k].toNat : Int) ∧ (s[k].toNat : Int) ≤ 57 := by
            have := List.all_eq_true.1 HA.out _ (List.mem_of_getElem? hg)
            simpa [isd] using this
          have HX : Hid (numv ((sb s).take (k + 1)) = numv ((sb s).take k) * 10 + ((s[k].toNat : Int) - 48)) := by
            show _ = _; rw [take_snoc hg, numv_snoc]
          have hb := HB.out k (by omega)
          obtain ⟨n, hn⟩ : ∃ n, numv ((sb s).take k) = n := ⟨_, rfl⟩
          rw [hn] at HX hb ⊢
          have hb2 : n < 100000000 := hb.2
          have hb1 := hb.1
          clear hg hb hn
          go_wp2
          go_roundw
          case rel => exact ⟨k + 1, by omega, by go_num, by rw [HX.out], by first | rfl | trivial⟩
          case measure => simp [intOf]; omega
        · rw [List.take_of_length_le (by rw [sb_len]; omega)]
          go_wp2
          go_ret
          exact ⟨by rw [HN.out]; rfl, rfl⟩
    · have hd3 : decide (1 < (s.size : Int)) = false := by simp; omega
      clear hbad hdg hdt
      go_enter Try.func70, Try.ntmps70
      go_wp2_with (go_at_call 72; refine (q _).mono ?_; rintro e w' ⟨rfl, rfl⟩)
      go_loopw [3, 4] (fun n i wr => ∃ k : Nat, k ≤ s.size ∧ i = .int .i64 (k : Int) ∧ n = .int .i64 (numv ((sb s).take k)) ∧ w = wr) (fun _ i _ => s.size - (intOf i).toNat)
      case atStart => exact ⟨0, Nat.zero_le _, rfl, rfl, by first | rfl | trivial⟩
      case round =>
        obtain ⟨k, hk, rfl, rfl, rfl⟩ := hrel
        clear q
        by_cases hlt : k < s.size
        · have hg := sb_get s k hlt
          have hcb : 48 ≤ (s[k].toNat : Int) ∧ (s[k].toNat : Int) ≤ 57 := by
            have := List.all_eq_true.1 HA.out _ (List.mem_of_getElem? hg)
            simpa [isd] using this
          have HX : Hid (numv ((sb s).take (k + 1)) = numv ((sb s).take k) * 10 + ((s[k].toNat : Int) - 48)) := by
            show _ = _; rw [take_snoc hg, numv_snoc]
          have hb := HB.out k (by omega)
          obtain ⟨n, hn⟩ : ∃ n, numv ((sb s).take k) = n := ⟨_, rfl⟩
          rw [hn] at HX hb ⊢
          have hb2 : n < 100000000 := hb.2
          have hb1 := hb.1
          clear hg hb hn
          go_wp2
          go_roundw
          case rel => exact ⟨k + 1, by omega, by go_num, by rw [HX.out], by first | rfl | trivial⟩
          case measure => simp [intOf]; omega
        · rw [List.take_of_length_le (by rw [sb_len]; omega)]
          go_wp2
          go_ret
          exact ⟨by rw [HN.out]; rfl, rfl⟩

end Go.Proofs.Ytpfiaginonnjmaa.Ver

/- Chapter 3, the specification's side: a text's parts; what stands behind a version; versions that are right. -/
namespace Go.Proofs.Ytpfiaginonnjmaa.Ver
open Go.RowKit Go.Proofs.Ytpfiaginonnjmaa.Mem Go.Proofs.Ytpfiaginonnjmaa.Laws Go.Proofs.Ytpfiaginonnjmaa.Bytes Go.Proofs.Ytpfiaginonnjmaa.Sha
set_option linter.unusedVariables false
set_option linter.unusedSimpArgs false

theorem info9v : (Try.prog.info? 9).map (fun i => (i.zero, i.size, i.bytes)) = some (some (.string ⟨#[]⟩), 1, 16) := by kernel_rfl
theorem one_strv (s : ByteArray) : ∀ u ∈ [Value.string s], u.oneCell' = true := by
  intro u hu
  rw [List.mem_singleton] at hu
  rw [hu]
  rfl
theorem emptySv (w : World) (lo : Nat) (h : lo ≤ w.heap.size) : Own (w.alloc (.cells #[] 9)) lo (w.alloc (.cells #[] 9)).heap.size 9 (.slice (some ⟨w.heap.size, 0, none⟩) 0 0) (ss []) :=
  Own.of (World.ownsRow_lit w #[] 0 h (Nat.zero_le _) rfl)

/-- the parts of a text, with a sign between -/
def splitL (b : Int) : List Int → List Int → List (List Int)
  | cur, [] => [cur]
  | cur, c :: r => if c = b then cur :: splitL b [] r else splitL b (cur ++ [c]) r
def split (b : Int) (l : List Int) : List (List Int) := splitL b [] l
def splitT (b : Int) (s : ByteArray) : List ByteArray := (split b (sb s)).map Plain.txt

theorem splitL_len (b : Int) : ∀ (l cur : List Int), (splitL b cur l).length ≤ l.length + 1 := by
  intro l
  induction l with
  | nil => intro cur; simp [splitL]
  | cons c r ih =>
    intro cur
    unfold splitL
    split
    · have := ih []; simp only [List.length_cons]; omega
    · have := ih (cur ++ [c]); simp only [List.length_cons]; omega
theorem splitT_len (b : Int) (s : ByteArray) : (splitT b s).length ≤ s.size + 1 := by
  unfold splitT split
  rw [List.length_map]
  have := splitL_len b (sb s) []
  rw [sb_len] at this
  exact this

theorem u8s_sb (s : ByteArray) : Plain.u8s (sb s) = s.data.toList := by
  unfold Plain.u8s sb
  rw [List.map_map]
  conv => rhs; rw [← List.map_id s.data.toList]
  apply List.map_congr_left
  intro b _
  simp
theorem ext_txt (s : ByteArray) (f k : Nat) : s.extract f k = Plain.txt (((sb s).drop f).take (k - f)) := by
  apply ByteArray.ext
  apply Array.ext'
  rw [ByteArray.data_extract, Array.toList_extract]
  show _ = Plain.u8s (((sb s).drop f).take (k - f))
  have h : Plain.u8s (((sb s).drop f).take (k - f)) = ((Plain.u8s (sb s)).drop f).take (k - f) := by
    unfold Plain.u8s
    rw [← List.map_drop, ← List.map_take]
  rw [h, u8s_sb]

theorem cur_snoc {l : List Int} {f k : Nat} {c : Int} (hf : f ≤ k) (hc : l[k]? = some c) : (l.drop f).take (k + 1 - f) = (l.drop f).take (k - f) ++ [c] := by
  rw [show k + 1 - f = (k - f) + 1 by omega]
  refine take_snoc ?_
  rw [List.getElem?_drop, show f + (k - f) = k by omega]
  exact hc
theorem drop_consI {l : List Int} {k : Nat} {c : Int} (hc : l[k]? = some c) : l.drop k = c :: l.drop (k + 1) := by
  obtain ⟨hk, rfl⟩ := List.getElem?_eq_some_iff.1 hc
  rw [List.drop_eq_getElem_cons hk]

set_option maxRecDepth 1000000 in
set_option maxHeartbeats 1000000 in
theorem split_spec (w : World) (s : ByteArray) (b : Int) (hb0 : 0 ≤ b) (hb1 : b ≤ 255) (hs : s.size ≤ 1000000000000) :
    Calls Try.prog 68 #[.string s, .int .u8 b] w fun e w' => ∃ v', e = .returned v' ∧ Own w' w.heap.size w'.heap.size 9 v' (ss (splitT b s)) ∧ Below w.heap.size w w' := by
  obtain ⟨i0, hi, hz0, hz1, hz2⟩ := info_parts info9v
  have ho0 := emptySv w w.heap.size (Nat.le_refl _)
  have hbe : Below w.heap.size w (w.alloc (.cells #[] 9)) := (Below.refl _ _).alloc (Nat.le_refl _) _
  go_enter Try.func68, Try.ntmps68
  go_wp2
  go_loopw [5, 6, 7] (fun o fr i wr => ∃ (k f : Nat) (P : List (List Int)), i = .int .i64 (k : Int) ∧ fr = .int .i64 (f : Int) ∧ P.length ≤ k ∧ k ≤ s.size + 1 ∧ Hid ((k ≤ s.size ∧ f ≤ k ∧ P ++ splitL b (((sb s).drop f).take (k - f)) ((sb s).drop k) = split b (sb s)) ∨ (k = s.size + 1 ∧ P = split b (sb s))) ∧ Own wr w.heap.size wr.heap.size 9 o (ss (P.map Plain.txt)) ∧ Below w.heap.size w wr) (fun _ _ i _ => s.size + 1 - (intOf i).toNat)
  case atStart => exact ⟨0, 0, [], rfl, rfl, Nat.le_refl _, by omega, .inl ⟨by omega, by omega, rfl⟩, ho0, hbe⟩
  case round =>
    obtain ⟨k, f, P, rfl, rfl, hPl, hk, HI, ho, hb⟩ := hrel
    have hsz := hb.size
    clear ho0 hbe
    by_cases hle : k ≤ s.size
    · obtain ⟨_, hf, hE⟩ : k ≤ s.size ∧ f ≤ k ∧ P ++ splitL b (((sb s).drop f).take (k - f)) ((sb s).drop k) = split b (sb s) := by
        rcases HI.out with h | h
        · exact h
        · omega
      have hl : (ss (P.map Plain.txt)).length = P.length := by rw [ss_len, List.length_map]
      have c2 : (ss (P.map Plain.txt)).length + 1 ≤ maxLen := by rw [hl]; unfold maxLen; omega
      have c3 : ((ss (P.map Plain.txt)).length + 1) * 16 ≤ 140737488355328 := by rw [hl]; omega
      have c4 : ∀ o, w.heap.size ≤ (wr.alloc o).heap.size := fun o => by simp; omega
      have HX : Hid (s.extract f k = Plain.txt (((sb s).drop f).take (k - f))) := ext_txt s f k
      have HS : Hid (ss ((P ++ [((sb s).drop f).take (k - f)]).map Plain.txt) = ss (P.map Plain.txt) ++ [.string (s.extract f k)]) := by
        show _ = _
        rw [List.map_append, ss_app, HX.out]
        rfl
      clear hl HI
      by_cases hend : k = s.size
      · have HN : Hid (P ++ [((sb s).drop f).take (k - f)] = split b (sb s)) := by
          show _ = _
          rw [← hE, List.drop_eq_nil_of_le (show (sb s).length ≤ k by rw [sb_len]; omega), splitL]
        have hd : ((k : Int) == (s.size : Int)) = true := by simp; omega
        have hge : s.size ≤ k := by omega
        clear hE hend
        go_wp2_with (at_builtin; go_must (refine wpl_app _ rfl (.tmp 26) (.tmp 31) 99 rfl 9 i0 (.string ⟨#[]⟩) 16 Try.underlying99 hi hz0 hz1 hz2 rfl w.heap.size _ (ss (P.map Plain.txt)) rfl (ho.alloc _) _ rfl [.string (s.extract f k)] (Sl.one _ _ _) (one_strv _) c2 c3 (c4 _) ?_); intro v3 w3 ho3 hb3 hg3)
        rw [← HS.out] at ho3
        have hb4 : Below w.heap.size w w3 := (hb.alloc hsz _).trans hb3
        go_roundw
        case rel => exact ⟨k + 1, k + 1, P ++ [((sb s).drop f).take (k - f)], by go_num, by go_num, by simp; omega, by omega, .inr ⟨by omega, HN.out⟩, ho3, hb4⟩
        case measure => simp [intOf]; omega
      · have hlt : k < s.size := by omega
        have hd : ((k : Int) == (s.size : Int)) = false := by simp; omega
        have hg := sb_get s k hlt
        have HG : Hid ((sb s)[k]? = some (s[k].toNat : Int)) := hg
        have hcb := (sb_byt s).at hg
        rw [drop_consI hg, splitL] at hE
        clear hg hend
        by_cases hc : (s[k].toNat : Int) = b
        · rw [if_pos hc] at hE
          have HN : Hid ((P ++ [((sb s).drop f).take (k - f)]) ++ splitL b (((sb s).drop (k + 1)).take (k + 1 - (k + 1))) ((sb s).drop (k + 1)) = split b (sb s)) := by
            show _ = _
            rw [← hE, Nat.sub_self, List.take_zero, List.append_assoc]
            rfl
          have hd2 : ((s[k].toNat : Int) == b) = true := by simpa using hc
          clear hE hc
          go_wp2_with (at_builtin; go_must (refine wpl_app _ rfl (.tmp 26) (.tmp 31) 99 rfl 9 i0 (.string ⟨#[]⟩) 16 Try.underlying99 hi hz0 hz1 hz2 rfl w.heap.size _ (ss (P.map Plain.txt)) rfl (ho.alloc _) _ rfl [.string (s.extract f k)] (Sl.one _ _ _) (one_strv _) c2 c3 (c4 _) ?_); intro v3 w3 ho3 hb3 hg3)
          rw [← HS.out] at ho3
          have hb4 : Below w.heap.size w w3 := (hb.alloc hsz _).trans hb3
          go_roundw
          case rel => exact ⟨k + 1, k + 1, P ++ [((sb s).drop f).take (k - f)], by go_num, by go_num, by simp; omega, by omega, .inl ⟨by omega, by omega, HN.out⟩, ho3, hb4⟩
          case measure => simp [intOf]; omega
        · rw [if_neg hc, ← cur_snoc hf HG.out] at hE
          have HN : Hid (P ++ splitL b (((sb s).drop f).take (k + 1 - f)) ((sb s).drop (k + 1)) = split b (sb s)) := hE
          have hd2 : ((s[k].toNat : Int) == b) = false := by simpa using hc
          clear hE hc
          go_wp2
          go_roundw
          case rel => exact ⟨k + 1, f, P, by go_num, by go_num, by omega, by omega, .inl ⟨by omega, by omega, HN.out⟩, ho, hb⟩
          case measure => simp [intOf]; omega
    · have HN : Hid (P = split b (sb s)) := by
        rcases HI.out with h | h
        · omega
        · exact h.2
      go_wp2
      go_ret
      exact ⟨_, rfl, by show Own _ _ _ _ _ (ss ((split b (sb s)).map Plain.txt)); rw [← HN.out]; exact ho, hb⟩

end Go.Proofs.Ytpfiaginonnjmaa.Ver

/- Chapter 3, the specification's side: what stands behind a version; versions that are right; a number's text. -/
namespace Go.Proofs.Ytpfiaginonnjmaa.Ver
open Go.RowKit Go.Proofs.Ytpfiaginonnjmaa.Mem Go.Proofs.Ytpfiaginonnjmaa.Laws Go.Proofs.Ytpfiaginonnjmaa.Bytes Go.Proofs.Ytpfiaginonnjmaa.Sha
set_option linter.unusedVariables false
set_option linter.unusedSimpArgs false

/-- one to four parts -/
def pre (l : List Int) : Bool := (split 46 l).all part && decide ((split 46 l).length ≤ 4)

theorem ownForm {w : World} {lo hi : Nat} {e : TypeId} {v : Value} {cs : List Value} (h : Own w lo hi e v cs) (hp : 0 < cs.length) :
    ∃ g cap, v = .slice (some ⟨g, 0, none⟩) cs.length cap ∧ lo ≤ g ∧ g < hi ∧ cs.length ≤ cap ∧ ∀ j, j < cs.length → w.cell? ⟨g, j, none⟩ = cs[j]? := by
  have hsl := h.sl
  obtain ⟨⟨h1, h2⟩, h3⟩ := h
  rcases h2 with ⟨rfl, h0⟩ | ⟨g, cap, cur, rfl, hb, hg, hnc, hcm, hcs, ht⟩
  · omega
  · refine ⟨g, cap, rfl, hb, h3 g rfl, hnc, ?_⟩
    obtain ⟨ao, cap', he, _, _, hr⟩ := hsl
    obtain ⟨b, off, hao, hcell⟩ := hr hp
    simp only [Value.slice.injEq] at he
    rw [← he.1] at hao
    simp only [Option.some.injEq, Addr.mk.injEq, and_true] at hao
    obtain ⟨rfl, rfl⟩ := hao
    intro j hj
    have := hcell j hj
    rw [Nat.zero_add] at this
    exact this
theorem splitL_pos (b : Int) : ∀ (l cur : List Int), 0 < (splitL b cur l).length := by
  intro l
  induction l with
  | nil => intro cur; simp [splitL]
  | cons c r ih => intro cur; unfold splitL; split; simp; exact ih _
theorem splitL_byt (b : Int) : ∀ (l cur : List Int), Byt l → Byt cur → ∀ p ∈ splitL b cur l, Byt p := by
  intro l
  induction l with
  | nil => intro cur hl hc p hp; simp [splitL] at hp; rw [hp]; exact hc
  | cons c r ih =>
    intro cur hl hc p hp
    have hr : Byt r := fun x hx => hl x (List.mem_cons_of_mem _ hx)
    unfold splitL at hp
    split at hp
    · rcases List.mem_cons.1 hp with rfl | hp
      · exact hc
      · exact ih [] hr (fun x hx => (by cases hx)) p hp
    · refine ih _ hr (hc.app fun x hx => ?_) p hp
      rw [List.mem_singleton] at hx
      rw [hx]
      exact hl c (List.mem_cons_self ..)
theorem sb_txtv {l : List Int} (h : Byt l) : sb (Plain.txt l) = l := by
  unfold sb Plain.txt Plain.u8s
  simp only [List.map_map]
  have e : ∀ x ∈ l, ((fun b : UInt8 => (b.toNat : Int)) ∘ fun x : Int => UInt8.ofNat x.toNat) x = x := fun x hx => Plain.u8_back (h x hx)
  rw [List.map_congr_left e]
  simp
theorem splitT_sb (b : Int) (s : ByteArray) : (splitT b s).map sb = split b (sb s) := by
  unfold splitT
  rw [List.map_map]
  conv => rhs; rw [← List.map_id (split b (sb s))]
  apply List.map_congr_left
  intro p hp
  exact sb_txtv (splitL_byt b (sb s) [] (sb_byt s) (fun x hx => (by cases hx)) p hp)
theorem splitL_size (b : Int) : ∀ (l cur : List Int), ∀ p ∈ splitL b cur l, p.length ≤ cur.length + l.length := by
  intro l
  induction l with
  | nil => intro cur p hp; simp [splitL] at hp; rw [hp]; simp
  | cons c r ih =>
    intro cur p hp
    unfold splitL at hp
    split at hp
    · rcases List.mem_cons.1 hp with rfl | hp
      · simp
      · have := ih [] p hp; simp at this; simp; omega
    · have := ih _ p hp; simp at this; simp; omega
theorem splitT_size (b : Int) (s : ByteArray) : ∀ t ∈ splitT b s, t.size ≤ s.size := by
  intro t ht
  unfold splitT at ht
  obtain ⟨p, hp, rfl⟩ := List.mem_map.1 ht
  have := splitL_size b (sb s) [] p hp
  rw [sb_len] at this
  show (Plain.txt p).data.size ≤ _
  simp [Plain.txt, Plain.u8s]
  simpa using this

/-- a version as a value -/
def ver (a b c : Int) (p : ByteArray) : Value := .agg #[.int .i64 a, .int .i64 b, .int .i64 c, .string p]
def inM (a : Int) : Bool := decide (0 ≤ a ∧ a ≤ 1000000)
def okV (a b c : Int) (p : ByteArray) : Bool := inM a && inM b && inM c && (decide (p.size = 0) || pre (sb p))

end Go.Proofs.Ytpfiaginonnjmaa.Ver

/- Chapter 3, the specification's side: a number's text, a version's text. -/
namespace Go.Proofs.Ytpfiaginonnjmaa.Ver
open Go.RowKit Go.Proofs.Ytpfiaginonnjmaa.Mem Go.Proofs.Ytpfiaginonnjmaa.Laws Go.Proofs.Ytpfiaginonnjmaa.Bytes Go.Proofs.Ytpfiaginonnjmaa.Sha
set_option linter.unusedVariables false
set_option linter.unusedSimpArgs false

/-- a number's digits (at most f + 1 of them) -/
def digF : Nat → Nat → List Int
  | 0, n => [48 + (n : Int)]
  | f + 1, n => if n < 10 then [48 + (n : Int)] else digF f (n / 10) ++ [48 + ((n % 10 : Nat) : Int)]
theorem digF_byt (f : Nat) : ∀ n, n < 10 ^ (f + 1) → Byt (digF f n) := by
  induction f with
  | zero => intro n hn x hx; simp [digF] at hx; omega
  | succ f ih =>
    intro n hn
    unfold digF
    split
    · intro x hx; simp at hx; omega
    · refine (ih _ ?_).app (fun x hx => ?_)
      · rw [Nat.pow_succ] at hn; omega
      · rw [List.mem_singleton] at hx; omega
theorem digF_len (f : Nat) : ∀ n, 1 ≤ (digF f n).length ∧ (digF f n).length ≤ f + 1 := by
  induction f with
  | zero => intro n; simp [digF]
  | succ f ih =>
    intro n
    unfold digF
    split
    · simp
    · have := ih (n / 10); simp; omega
theorem txt_app (a b : List Int) : Plain.txt (a ++ b) = Plain.txt a ++ Plain.txt b := by
  apply ByteArray.ext
  rw [ByteArray.data_append]
  simp [Plain.txt, Plain.u8s]

theorem txt_sizev (l : List Int) : (Plain.txt l).size = l.length := by
  show (Plain.txt l).data.size = _
  simp [Plain.txt, Plain.u8s]

theorem conv_new (W : World) (x : Int) (h0 : 0 ≤ x) (h1 : x ≤ 255) : (convert 22 9 (.slice (some ⟨W.heap.size, 0, none⟩) 1 1)).run Try.prog (W.alloc (.cells #[.int .u8 x] 5)) = .ok (.string (Plain.txt [x])) (W.alloc (.cells #[.int .u8 x] 5)) :=
  conv_sl (zs := [x]) (Sl.one W (.int .u8 x) 5) (fun y hy => by rw [List.mem_singleton] at hy; omega)
theorem conv_late {W w5 : World} {x : Int} (h0 : 0 ≤ x) (h1 : x ≤ 255) (b5 : Below (W.alloc (.cells #[.int .u8 x] 5)).drew.heap.size (W.alloc (.cells #[.int .u8 x] 5)).drew w5) : (convert 22 9 (.slice (some ⟨W.heap.size, 0, none⟩) 1 1)).run Try.prog w5 = .ok (.string (Plain.txt [x])) w5 :=
  conv_sl (zs := [x]) (Sl.later (w := (W.alloc (.cells #[.int .u8 x] 5)).drew) (Sl.one W (.int .u8 x) 5) b5) (fun y hy => by rw [List.mem_singleton] at hy; omega)

theorem keepCell {W W' : World} {p : Addr} {x : Value} (h : W.cell? p = some x) (b : Below W.heap.size W W') : W'.cell? p = some x := by
  rw [b.cell (World.block_lt_of_cell? W p h)]; exact h
theorem txt_sbv (s : ByteArray) : Plain.txt (sb s) = s := by
  apply ByteArray.ext
  apply Array.ext'
  show Plain.u8s (sb s) = _
  exact u8s_sb s

/-- a version's text -/
def vt (a b c : Int) (p : ByteArray) : List Int := [118] ++ digF 6 a.toNat ++ [46] ++ digF 6 b.toNat ++ [46] ++ digF 6 c.toNat ++ (if p.size = 0 then [] else [45] ++ sb p)
def verText (a b c : Int) (p : ByteArray) : List Int := if okV a b c p = true then vt a b c p else []

theorem inM_nat {a : Int} (h : inM a = true) : ∃ n : Nat, a = (n : Int) ∧ n ≤ 1000000 := by
  unfold inM at h
  have := of_decide_eq_true h
  exact ⟨a.toNat, by omega, by omega⟩

end Go.Proofs.Ytpfiaginonnjmaa.Ver

/- Chapter 3, the specification's side: a version's text. -/
namespace Go.Proofs.Ytpfiaginonnjmaa.Ver
set_option linter.unusedVariables false
set_option linter.unusedSimpArgs false
open Go.RowKit Go.Proofs.Ytpfiaginonnjmaa.Mem Go.Proofs.Ytpfiaginonnjmaa.Laws Go.Proofs.Ytpfiaginonnjmaa.Bytes Go.Proofs.Ytpfiaginonnjmaa.Sha

end Go.Proofs.Ytpfiaginonnjmaa.Ver

/- Chapter 3, the specification's side: which of two versions is less. -/
namespace Go.Proofs.Ytpfiaginonnjmaa.Ver
set_option linter.unusedVariables false
set_option linter.unusedSimpArgs false
open Go.RowKit Go.Proofs.Ytpfiaginonnjmaa.Mem Go.Proofs.Ytpfiaginonnjmaa.Laws Go.Proofs.Ytpfiaginonnjmaa.Bytes Go.Proofs.Ytpfiaginonnjmaa.Sha

/-- two texts: byte by byte less; the same -/
def ltT (a b : ByteArray) : Bool := Op.bytesLess a.toList b.toList
def eqT (a b : ByteArray) : Bool := a.toList == b.toList
def lessPart (a b : ByteArray) : Bool :=
  if 0 ≤ number (sb a) then (if 0 ≤ number (sb b) then decide (number (sb a) < number (sb b)) else true) else (if 0 ≤ number (sb b) then false else ltT a b)
def lessL : List ByteArray → List ByteArray → Bool
  | [], [] => false
  | [], _ :: _ => true
  | _ :: _, [] => false
  | t :: r, u :: q => if eqT t u = true then lessL r q else lessPart t u
def lessPre (a b : ByteArray) : Bool := lessL (splitT 46 a) (splitT 46 b)

theorem quiet_eqv {P : Program} {f : FuncId} {args : Array Value} {w : World} {n : Nat} {v : Value}
    (h : Calls P f args (w.drewN n) fun e w' => e = .returned v ∧ w.drewN n = w') : Calls P f args (w.drewN n) fun e w'' => e = .returned v ∧ ∃ m, w'' = w.drewN m :=
  h.mono fun _ _ ⟨he, hm⟩ => ⟨he, n, hm.symm⟩

theorem drop_consS {l : List ByteArray} {k : Nat} {c : ByteArray} (hc : l[k]? = some c) : l.drop k = c :: l.drop (k + 1) := by
  obtain ⟨hk, rfl⟩ := List.getElem?_eq_some_iff.1 hc
  rw [List.drop_eq_getElem_cons hk]
theorem splitT_pos (b : Int) (s : ByteArray) : 0 < (splitT b s).length := by
  unfold splitT
  rw [List.length_map]
  exact splitL_pos b (sb s) []
theorem lessL_end {T U : List ByteArray} {k : Nat} (h : T.length ≤ k ∨ U.length ≤ k) : lessL (T.drop k) (U.drop k) = decide ((T.drop k).length < (U.drop k).length) := by
  rcases h with h | h
  · rw [List.drop_eq_nil_of_le h]
    cases U.drop k with
    | nil => rfl
    | cons x r => simp [lessL]
  · rw [List.drop_eq_nil_of_le h]
    cases T.drop k with
    | nil => rfl
    | cons x r => simp [lessL]

end Go.Proofs.Ytpfiaginonnjmaa.Ver

/- Chapter 3, the specification's side: versions in order, and what is bumped. -/
namespace Go.Proofs.Ytpfiaginonnjmaa.Ver
set_option linter.unusedVariables false
set_option linter.unusedSimpArgs false
open Go.RowKit Go.Proofs.Ytpfiaginonnjmaa.Mem Go.Proofs.Ytpfiaginonnjmaa.Laws Go.Proofs.Ytpfiaginonnjmaa.Bytes Go.Proofs.Ytpfiaginonnjmaa.Sha

def lessV (a1 b1 c1 : Int) (p1 : ByteArray) (a2 b2 c2 : Int) (p2 : ByteArray) : Bool :=
  if a1 ≠ a2 then decide (a1 < a2) else if b1 ≠ b2 then decide (b1 < b2) else if c1 ≠ c2 then decide (c1 < c2)
  else if eqT p1 p2 = true ∨ p1.size = 0 then false else if p2.size = 0 then true else lessPre p1 p2

end Go.Proofs.Ytpfiaginonnjmaa.Ver
