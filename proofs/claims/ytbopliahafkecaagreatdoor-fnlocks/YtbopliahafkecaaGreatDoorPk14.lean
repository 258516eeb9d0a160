/- Texts in one: GetT, Strs, GetTs. -/
import Derived.Test.YtbopliahafkecaaGreatDoorPk13
import Derived.Test.YtbopliahafkecaaGreatDoorPk6
import Derived.Test.YtbopliahafkecaaGreatDoorRows
import Derived.Test.YtbopliahafkecaaGreatDoorPk1
import Derived.Test.YtbopliahafkecaaGreatDoorPk3
import Derived.Test.YtbopliahafkecaaGreatDoorPk2
import Derived.WalkKit
import Derived.WalkSpells
import Derived.WalkLawsBesides
import Derived.Deep.QuietTactic
import Derived.BigQuiet
import Derived.Deep.RegionWith
/- Contracts of GetText, the program's and the specification's: both answer 'getText' of the bytes, and turn nothing. -/
namespace Go.Proofs.YtbopliahafkecaaGreatDoor.GetT
open Go.RowKit Go.Proofs.YtbopliahafkecaaGreatDoor.Mem Go.Proofs.YtbopliahafkecaaGreatDoor.Plain
set_option linter.unusedVariables false

theorem conv_none (ao : Option Addr) (c : Nat) (w : World) : (convert 22 9 (.slice ao 0 c)).run Tryz.prog w = .ok (.string ⟨#[]⟩) w := by
  cases ao with
  | none => rw [run_convert_bytes_string w 22 9 5 none 0 c Tryz.underlying22 Tryz.underlying5 Tryz.underlying9]; rfl
  | some a => exact run_convert_bytes_back w 22 9 5 a c [] Tryz.underlying22 Tryz.underlying5 Tryz.underlying9 (fun j hj => by simp at hj)

theorem conv_some {w : World} {xs : List Int} {b off p n c : Nat} (hb : Byt xs) (hcell : ∀ j, j < xs.length → w.cell? ⟨b, off + j, none⟩ = (bs xs)[j]?) (hn : p + n ≤ xs.length) :
    (convert 22 9 (.slice (some ⟨b, off + p, none⟩) n c)).run Tryz.prog w = .ok (.string (txt ((xs.drop p).take n))) w := by
  have hl : (u8s ((xs.drop p).take n)).length = n := by rw [u8s_len]; simp; omega
  have h := run_convert_bytes_back (P := Tryz.prog) w 22 9 5 ⟨b, off + p, none⟩ c (u8s ((xs.drop p).take n)) Tryz.underlying22 Tryz.underlying5 Tryz.underlying9 (fun j hj => by
    rw [hl] at hj
    rw [Addr.add_lit, Nat.add_assoc, hcell (p + j) (by omega), bs_get]
    have hx : xs[p + j]? = some (xs[p + j]'(by omega)) := by simp
    have hy := hb.at hx
    rw [hx]
    simp only [u8s, List.getElem_map, List.getElem_take, List.getElem_drop, Option.map_some]
    rw [u8_back hy])
  rw [hl] at h
  exact h

theorem rets {s s' : ByteArray} {b b' : Int} {c c' : Bool} (h1 : s = s') (h2 : b = b') (h3 : c = c') : Ending.returned (.tuple #[.string s, .int .i64 b, .bool c]) = .returned (.tuple #[.string s', .int .i64 b', .bool c']) := by rw [h1, h2, h3]

end Go.Proofs.YtbopliahafkecaaGreatDoor.GetT

/- Contracts of the laws' own small functions on lists of texts: a copy, a comparison, how much there is, marks laid, marks looked for. -/
namespace Go.Proofs.YtbopliahafkecaaGreatDoor.Strs
open Go.RowKit Go.Proofs.YtbopliahafkecaaGreatDoor.Mem Go.Proofs.YtbopliahafkecaaGreatDoor.Bytes
set_option linter.unusedVariables false

theorem info9 : (Tryz.prog.info? 9).map (fun i => (i.zero, i.size, i.bytes)) = some (some (.string ⟨#[]⟩), 1, 16) := by kernel_rfl

theorem tot_take (l : List ByteArray) (k : Nat) (s : ByteArray) (h : l[k]? = some s) : Puts.tot (l.take (k + 1)) = Puts.tot (l.take k) + s.size := by
  induction l generalizing k with
  | nil => simp at h
  | cons x r ih =>
    cases k with
    | zero => simp at h; subst h; simp [Puts.tot]
    | succ k => simp at h; simp only [List.take_succ_cons, Puts.tot]; rw [ih k h]; omega

/-- the digits of a number, at most f of them more -/
def digF : Nat → Nat → List UInt8
  | 0, _ => []
  | f + 1, n => if n = 0 then [] else digF f (n / 10) ++ [UInt8.ofNat (48 + n % 10)]
def dig (n : Nat) : List UInt8 := digF n n
theorem digF_any (f : Nat) : ∀ g n, n ≤ f → n ≤ g → digF f n = digF g n := by
  induction f with
  | zero =>
    intro g n h1 h2
    obtain rfl : n = 0 := by omega
    cases g with
    | zero => rfl
    | succ g => rw [digF, digF, if_pos rfl]
  | succ f ih =>
    intro g n h1 h2
    cases g with
    | zero =>
      obtain rfl : n = 0 := by omega
      rw [digF, digF, if_pos rfl]
    | succ g =>
      rw [digF, digF]
      split
      · rfl
      · rw [ih g (n / 10) (by omega) (by omega)]
theorem dig_zero : dig 0 = [] := rfl
theorem dig_step {n : Nat} (h : ¬ n = 0) : dig n = dig (n / 10) ++ [UInt8.ofNat (48 + n % 10)] := by
  unfold dig
  obtain ⟨m, rfl⟩ : ∃ m, n = m + 1 := ⟨n - 1, by omega⟩
  rw [digF, if_neg h, digF_any m ((m + 1) / 10) ((m + 1) / 10) (by omega) (by omega)]
/-- the text of a mark -/
def mt (n : Nat) : ByteArray := ⟨(109 :: dig n).toArray⟩

theorem conv_byte (w : World) (x : Int) (hx : 0 ≤ x ∧ x ≤ 255) : ∀ (u : Int), u = x → (convert 22 9 (.slice (some ⟨w.heap.size, 0, none⟩) 1 1)).run Tryz.prog (w.alloc (.cells #[.int .u8 u] 5)) = .ok (.string ⟨#[UInt8.ofNat x.toNat]⟩) (w.alloc (.cells #[.int .u8 u] 5)) := by
  intro u hu
  subst hu
  refine run_convert_bytes_back (P := Tryz.prog) _ 22 9 5 ⟨w.heap.size, 0, none⟩ 1 [UInt8.ofNat u.toNat] Tryz.underlying22 Tryz.underlying5 Tryz.underlying9 (fun j hj => ?_)
  obtain rfl : j = 0 := by simp at hj; omega
  rw [Addr.add_lit, cell_of_row _ w.heap.size 0 #[.int .u8 u] 5 (0, 0) (heap_alloc_new w _)]
  simp only [List.getElem_cons_zero]
  rw [UInt8.toNat_ofNat', show ((u.toNat % 2 ^ 8 : Nat) : Int) = u by omega]
  rfl

theorem ba_cons (c : UInt8) (d : List UInt8) : (⟨#[c]⟩ : ByteArray) ++ ⟨d.toArray⟩ = ⟨(c :: d).toArray⟩ := by
  apply ByteArray.ext
  rw [ByteArray.data_append]
  simp

theorem ofNat48 (x : Nat) : (48 : UInt8) + UInt8.ofNat x = UInt8.ofNat (48 + x) := by
  rw [UInt8.ofNat_add]
  rfl

set_option maxRecDepth 1000000 in
set_option maxHeartbeats 1000000 in
/-- markText of a number above 0. -/
theorem mark_text (w : World) (k : Nat) (hk : 1 ≤ k) (hk2 : k ≤ 140737488355328) :
    Calls Tryz.prog 45 #[.int .i64 (k : Int)] w fun e w' => e = .returned (.string (mt k)) ∧ Below w.heap.size w w' := by
  go_enter Tryz.func45, Tryz.ntmps45
  go_wp2
  go_loopw [0, 3] (fun kk o wr => ∃ (m : Nat) (d : List UInt8), kk = .int .i64 (m : Int) ∧ o = .string ⟨d.toArray⟩ ∧ m + d.length ≤ k ∧ dig m ++ d = dig k ∧ Below w.heap.size w wr) (fun kk _ _ => (intOf kk).toNat)
  case atStart => exact ⟨k, [], rfl, rfl, by simp, by simp, Below.refl _ _⟩
  case round =>
    obtain ⟨m, d, rfl, rfl, hmd, hD0, hb⟩ := hrel
    have HD : Hid (dig m ++ d = dig k) := hD0
    have hsz := hb.size
    clear hD0
    by_cases h0 : 0 < m
    · have hconv := conv_byte wr (48 + (m : Int) % 10) (by omega)
      have HS : Hid (dig (m / 10) ++ (UInt8.ofNat (48 + m % 10) :: d) = dig k) := by
        show _ = _
        rw [← HD.out, dig_step (show ¬ m = 0 by omega), List.append_assoc]
        rfl
      go_wp2
      go_roundw
      case rel => exact ⟨m / 10, UInt8.ofNat (48 + m % 10) :: d, by go_num, by rw [ofNat48, ba_cons], by simp; omega, HS.out, hb.alloc hsz _⟩
      case measure => simp [intOf]; omega
    · go_wp2
      go_ret
      refine ⟨?_, hb⟩
      have h1 := HD.out
      obtain rfl : m = 0 := by omega
      rw [dig_zero, List.nil_append] at h1
      show Ending.returned (.string (_ ++ _)) = _
      rw [ba_cons, h1]
      rfl

/-- marks from k on, as texts -/
def mts (k n : Nat) : List ByteArray := (List.range n).map fun i => mt (k + i)
theorem mts_len (k n : Nat) : (mts k n).length = n := by simp [mts]
theorem mts_get (k n j : Nat) (h : j < n) : (mts k n)[j]? = some (mt (k + j)) := by simp [mts, h]

end Go.Proofs.YtbopliahafkecaaGreatDoor.Strs

/- Contracts of GetTexts, the program's and the specification's: both answer 'getTexts' of the bytes; the list lies in new memory; nothing old is turned. -/
namespace Go.Proofs.YtbopliahafkecaaGreatDoor.GetTs
open Go.RowKit Go.Proofs.YtbopliahafkecaaGreatDoor.Mem Go.Proofs.YtbopliahafkecaaGreatDoor.Plain Go.Proofs.YtbopliahafkecaaGreatDoor.Laws
set_option linter.unusedVariables false

theorem one_str (s : ByteArray) : ∀ u ∈ [Value.string s], u.oneCell' = true := by
  intro u hu
  rw [List.mem_singleton] at hu
  rw [hu]
  rfl

theorem Own.emptyS (w : World) (lo : Nat) (h : lo ≤ w.heap.size) : Own (w.alloc (.cells #[] 9)) lo (w.alloc (.cells #[] 9)).heap.size 9 (.slice (some ⟨w.heap.size, 0, none⟩) 0 0) (ss []) :=
  Own.of (World.ownsRow_lit w #[] 0 h (Nat.zero_le _) rfl)
theorem Own.nilS (w : World) (lo hi : Nat) : Own w lo hi 9 (.slice none 0 0) (ss []) :=
  ⟨World.ownsRow_nil w lo 9 1, fun g hg => by simp [Value.ownBlock] at hg⟩

/-- What GetTexts answers, and what of the world it leaves. -/
def Done (xs : List Int) (at_ : Int) (w : World) (e : Ending) (w' : World) : Prop :=
  ∃ v' : Value, e = .returned (.tuple #[v', .int .i64 (getTexts xs at_).2.1, .bool (getTexts xs at_).2.2]) ∧ Own w' w.heap.size w'.heap.size 9 v' (ss (getTexts xs at_).1) ∧ Below w.heap.size w w'

theorem done_no {xs : List Int} {at_ : Int} {w w' : World} {v' : Value} (hg : getTexts xs at_ = ([], 0, false)) (ho : Own w' w.heap.size w'.heap.size 9 v' (ss [])) (hb : Below w.heap.size w w') :
    Done xs at_ w (.returned (.tuple #[v', .int .i64 0, .bool false])) w' := by
  unfold Done
  rw [hg]
  exact ⟨v', rfl, ho, hb⟩
theorem done_yes {xs : List Int} {at_ q : Int} {l : List ByteArray} {w w' : World} {v' : Value} (hg : getTexts xs at_ = (l, q, true)) (ho : Own w' w.heap.size w'.heap.size 9 v' (ss l)) (hb : Below w.heap.size w w') :
    Done xs at_ w (.returned (.tuple #[v', .int .i64 q, .bool true])) w' := by
  unfold Done
  rw [hg]
  exact ⟨v', rfl, ho, hb⟩

end Go.Proofs.YtbopliahafkecaaGreatDoor.GetTs
