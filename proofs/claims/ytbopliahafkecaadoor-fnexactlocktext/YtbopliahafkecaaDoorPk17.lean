/- Texts in one: ImpJ, ImpK, ImpM, ImpN, VerQ, VerR, EntP0, Plain3, EntP. -/
import Derived.Test.YtbopliahafkecaaDoorPk16
import Derived.Test.YtbopliahafkecaaDoorPk12
import Derived.Test.YtbopliahafkecaaDoorPk13
import Derived.Test.YtbopliahafkecaaDoorPk6
import Derived.Test.YtbopliahafkecaaDoorPk2
import Derived.Test.YtbopliahafkecaaDoorPk15
import Derived.Lib.Strings
import Derived.Lib.Bytealg
import Derived.Laws.Rows
/- Chapter 3, the landed code: what the library cuts off a text: a v ahead, and what stands behind the first sign -. -/
namespace Go.Proofs.YtbopliahafkecaaDoor.Ver
open Go.RowKit Go.Proofs.YtbopliahafkecaaDoor.Mem Go.Proofs.YtbopliahafkecaaDoor.Laws Go.Proofs.YtbopliahafkecaaDoor.Bytes Go.Proofs.YtbopliahafkecaaDoor.Sha
set_option linter.unusedVariables false
set_option linter.unusedSimpArgs false

/-- the place of the first sign -, or -1 -/
def dash (t : ByteArray) : Int := match (sb t).findIdx? (fun c => c == 45) with
  | some i => (i : Int)
  | none => -1

theorem indexByte_dash : ∀ l : List UInt8, Lib.indexByte l 45 = match (l.map fun b => (b.toNat : Int)).findIdx? (fun c => c == 45) with
    | some i => (i : Int)
    | none => -1 := by
  intro l
  induction l with
  | nil => rfl
  | cons b r ih =>
    by_cases h : b = 45
    · subst h; simp [Lib.indexByte, List.findIdx?_cons]
    · have h2 : ((b.toNat : Int) == 45) = false := by
        rw [beq_eq_false_iff_ne]
        intro h3
        apply h
        apply UInt8.toNat_inj.1
        have : (45 : UInt8).toNat = 45 := rfl
        omega
      have h4 : (b == 45) = false := by simpa using h
      rw [List.map_cons, List.findIdx?_cons, h2]
      unfold Lib.indexByte
      simp only [h4, Bool.false_eq_true, if_false, ih]
      cases (r.map fun b => (b.toNat : Int)).findIdx? (fun c => c == 45) with
      | none => simp
      | some i => simp

set_option maxRecDepth 1000000 in
set_option maxHeartbeats 1000000 in
theorem ib_impl (w : World) (s : ByteArray) : Calls Tryd.prog 90 #[.string s, .int .u8 45] w fun e w' => e = .returned (.int .i64 (dash s)) ∧ w' = w := by
  have HD : Hid (Lib.indexByte s.data.toList (45 : Int).toNat.toUInt8 = dash s) := indexByte_dash s.data.toList
  go_enter Tryd.func90, Tryd.ntmps90
  go_wp2
  rw [run_callFunc_extern Tryd.func94 (by kernel_rfl) (by kernel_rfl) (by kernel_rfl) (e := Extern.BytealgIndexByte.indexByte) (by kernel_rfl), Lib.run_indexByteString, HD.out]
  simp only [Result.andThen]
  rw [Oper.upon_value]
  go_wp2
  go_ret
  exact ⟨rfl, rfl⟩

set_option maxRecDepth 1000000 in
set_option maxHeartbeats 2000000 in
theorem ix_impl (w : World) (s : ByteArray) : Calls Tryd.prog 87 #[.string s, .string ⟨#[45]⟩] w fun e w' => e = .returned (.int .i64 (dash s)) ∧ w' = w := by
  have q := ib_impl w s
  by_cases h : s.toList = [45]
  · have h1 : ([45] == s.toList) = true := by simp [h]
    have HD : Hid (dash s = 0) := by
      show _ = _
      unfold dash
      rw [show sb s = [45] by unfold sb; rw [← ByteArray.toList_eq, h]; rfl]
      rfl
    clear h
    go_enter Tryd.func87, Tryd.ntmps87
    go_wp2_with (go_at_call 90; refine q.mono ?_; rintro e w' ⟨rfl, rfl⟩)
    go_ret
    exact ⟨by rw [HD.out]; rfl, rfl⟩
  · have h1 : ([45] == s.toList) = false := by
      rw [beq_eq_false_iff_ne]
      exact fun e => h e.symm
    clear h
    obtain ⟨d, hd⟩ : ∃ d, dash s = d := ⟨_, rfl⟩
    rw [hd] at q ⊢
    clear hd
    go_enter Tryd.func87, Tryd.ntmps87
    go_wp2_with (go_at_call 90; refine q.mono ?_; rintro e w' ⟨rfl, rfl⟩)
    go_ret
    exact ⟨rfl, rfl⟩

theorem dash_some {s : ByteArray} {i : Nat} (h : (sb s).findIdx? (fun c => c == 45) = some i) : i < s.size := by
  have := (List.findIdx?_eq_some_iff_getElem.1 h).1
  rw [sb_len] at this
  exact this

set_option maxRecDepth 1000000 in
set_option maxHeartbeats 1000000 in
theorem cutl_impl (w : World) (s : ByteArray) (hs : s.size ≤ 1000000000000) : Calls Tryd.prog 81 #[.string s, .string ⟨#[45]⟩] w fun e w' => e = .returned (.tuple #[.string (cut s).1, .string (cut s).2, .bool (decide (0 ≤ dash s))]) ∧ Below w.heap.size w w' := by
  have q := ix_impl w s
  cases hd : (sb s).findIdx? (fun c => c == 45) with
  | none =>
    have e1 : dash s = -1 := by unfold dash; rw [hd]
    have HC : Hid ((cut s).1 = s ∧ (cut s).2 = ⟨#[]⟩) := by show _ ∧ _; unfold cut; rw [hd]; exact ⟨rfl, rfl⟩
    rw [e1] at q
    have HE : Hid (decide (0 ≤ dash s) = false) := by show _ = _; rw [e1]; rfl
    clear e1 hd
    go_enter Tryd.func81, Tryd.ntmps81
    go_wp2_with (go_at_call 87; refine q.mono ?_; rintro e w' ⟨rfl, rfl⟩)
    go_ret3
    exact ⟨by rw [HC.out.1, HC.out.2, HE.out]; rfl, Below.refl _ _⟩
  | some i =>
    have e1 : dash s = (i : Int) := by unfold dash; rw [hd]
    have hi := dash_some hd
    have HC : Hid ((cut s).1 = s.extract 0 i ∧ (cut s).2 = s.extract (i + 1) s.size) := by show _ ∧ _; unfold cut; rw [hd]; exact ⟨rfl, rfl⟩
    rw [e1] at q
    have HE : Hid (decide (0 ≤ dash s) = true) := by show _ = _; rw [e1]; simp
    clear e1 hd
    have h0 : (0 : Int) ≤ (i : Int) := by omega
    have h1 : i ≤ s.size := by omega
    have h2 : i + 1 ≤ s.size := by omega
    go_enter Tryd.func81, Tryd.ntmps81
    go_wp2_with (go_at_call 87; refine q.mono ?_; rintro e w' ⟨rfl, rfl⟩)
    go_quiet (fail)
    go_wp2
    go_ret3
    exact ⟨by rw [HC.out.1, HC.out.2, HE.out]; rfl, ⟨rfl, rfl, rfl, Nat.le_refl _, fun _ _ => rfl⟩⟩

set_option maxRecDepth 1000000 in
set_option maxHeartbeats 1000000 in
theorem cut_impl (w : World) (s : ByteArray) (hs : s.size ≤ 1000000000000) : Calls Tryd.prog 70 #[.string s, .string ⟨#[45]⟩] w fun e w' => e = .returned (.tuple #[.string (cut s).1, .string (cut s).2, .bool (decide (0 ≤ dash s))]) ∧ Below w.heap.size w w' := by
  have q := cutl_impl w s hs
  obtain ⟨x, hx⟩ : ∃ x, (cut s).1 = x := ⟨_, rfl⟩
  obtain ⟨y, hy⟩ : ∃ x, (cut s).2 = x := ⟨_, rfl⟩
  obtain ⟨z, hz⟩ : ∃ x, decide (0 ≤ dash s) = x := ⟨_, rfl⟩
  rw [hx, hy, hz] at q ⊢
  clear hx hy hz
  go_enter Tryd.func70, Tryd.ntmps70
  go_wp2_with (go_at_call 81; refine q.mono ?_; rintro e w' ⟨rfl, b1⟩)
  go_ret3
  exact ⟨rfl, b1⟩

/-- does the text begin with a v? -/
def vAt (s : ByteArray) : Bool := decide ((sb s).head? = some 118)

def vOff (s : ByteArray) : ByteArray := if vAt s = true then s.extract 1 s.size else s

theorem vAt_nil {s : ByteArray} (h : s.size = 0) : vAt s = false := by
  have := sb_len s
  cases hb : sb s with
  | nil => unfold vAt; rw [hb]; rfl
  | cons x y => rw [hb] at this; simp at this; omega

theorem vAt_pos {s : ByteArray} (h : 0 < s.size) : ((s.extract 0 1).toList == [118]) = vAt s := by
  have hg := sb_get s 0 h
  rw [ByteArray.toList_eq, ByteArray.data_extract, Array.toList_extract]
  unfold vAt
  have hl : 0 < s.data.toList.length := by simpa using h
  cases hd : s.data.toList with
  | nil => rw [hd] at hl; simp at hl
  | cons x y =>
    have hs : sb s = (x.toNat : Int) :: y.map fun b => (b.toNat : Int) := by unfold sb; rw [hd]; rfl
    rw [hs]
    simp only [List.head?_cons, Option.some.injEq]
    rw [Bool.eq_iff_iff]
    simp
    constructor
    · rintro rfl; rfl
    · intro h3
      apply UInt8.toNat_inj.1
      have : (118 : UInt8).toNat = 118 := rfl
      omega

set_option maxRecDepth 1000000 in
set_option maxHeartbeats 1000000 in
theorem hasp_impl (w : World) (s : ByteArray) (hs : s.size ≤ 1000000000000) : Calls Tryd.prog 89 #[.string s, .string ⟨#[118]⟩] w fun e w' => e = .returned (.bool (vAt s)) ∧ w' = w := by
  by_cases h0 : s.size = 0
  · have HN : Hid (vAt s = false) := vAt_nil h0
    have h1 : ¬ 1 ≤ s.size := by omega
    have h2 : s.size < 1 := by omega
    clear h0
    go_enter Tryd.func89, Tryd.ntmps89
    go_wp2
    go_ret
    exact ⟨by rw [HN.out]; rfl, rfl⟩
  · have h1 : 1 ≤ s.size := by omega
    have hv := vAt_pos (s := s) (by omega)
    obtain ⟨x, hx⟩ : ∃ x, vAt s = x := ⟨_, rfl⟩
    rw [hx] at hv ⊢
    clear hx h0
    go_enter Tryd.func89, Tryd.ntmps89
    go_wp2
    go_ret
    exact ⟨by simp [hv], rfl⟩

set_option maxRecDepth 1000000 in
set_option maxHeartbeats 1000000 in
theorem cutp_impl (w : World) (s : ByteArray) (hs : s.size ≤ 1000000000000) : Calls Tryd.prog 76 #[.string s, .string ⟨#[118]⟩] w fun e w' => e = .returned (.tuple #[.string (vOff s), .bool (vAt s)]) ∧ w' = w := by
  have q := hasp_impl w s hs
  cases hx : vAt s with
  | false =>
    have HV : Hid (vOff s = s) := by show _ = _; unfold vOff; rw [hx]; rfl
    rw [hx] at q
    clear hx
    go_enter Tryd.func76, Tryd.ntmps76
    go_wp2_with (first | (go_at_call 89; refine q.mono ?_; rintro e w' ⟨rfl, rfl⟩) | go_in)
    go_ret2
    exact ⟨by rw [HV.out]; rfl, rfl⟩
  | true =>
    have h1 : 1 ≤ s.size := by
      by_cases h0 : s.size = 0
      · rw [vAt_nil h0] at hx; cases hx
      · omega
    have HV : Hid (vOff s = s.extract 1 s.size) := by show _ = _; unfold vOff; rw [hx]; rfl
    rw [hx] at q
    clear hx
    go_enter Tryd.func76, Tryd.ntmps76
    go_wp2_with (first | (go_at_call 89; refine q.mono ?_; rintro e w' ⟨rfl, rfl⟩) | go_in)
    go_ret2
    exact ⟨by rw [HV.out]; rfl, rfl⟩

end Go.Proofs.YtbopliahafkecaaDoor.Ver

/- Chapter 3, the landed code: a number up to a greatest one. -/
namespace Go.Proofs.YtbopliahafkecaaDoor.Ver
open Go.RowKit Go.Proofs.YtbopliahafkecaaDoor.Mem Go.Proofs.YtbopliahafkecaaDoor.Laws Go.Proofs.YtbopliahafkecaaDoor.Bytes Go.Proofs.YtbopliahafkecaaDoor.Sha
set_option linter.unusedVariables false
set_option linter.unusedSimpArgs false

set_option maxRecDepth 1000000 in
set_option maxHeartbeats 1000000 in
theorem upto_impl (w : World) (s : ByteArray) (hs : s.size ≤ 1000000000000) :
    Calls Tryd.prog 77 #[.string s, .int .i64 1000000] w fun e w' => e = .returned (.tuple #[.int .i64 (upTo (sb s) 1000000).1, .bool (upTo (sb s) 1000000).2]) ∧ Below w.heap.size w w' := by
  have q := number_impl w s hs
  obtain ⟨x, hx⟩ : ∃ x, isNum (sb s) = x := ⟨_, rfl⟩
  rw [hx] at q
  have HX : Hid (isNum (sb s) = x) := hx
  clear hx
  cases x
  · have HN : Hid (upTo (sb s) 1000000 = (0, false)) := by show _ = _; unfold upTo; rw [HX.out]; simp
    go_enter Tryd.func77, Tryd.ntmps77
    go_wp2_with (go_at_call 84; refine q.mono ?_; rintro e w1 ⟨rfl, b1⟩)
    go_ret2
    exact ⟨by rw [HN.out]; rfl, b1⟩
  · have HA : Hid ((sb s).all isd = true) := by
      show _ = _
      have h := HX.out
      unfold isNum at h
      rw [Bool.and_eq_true] at h
      exact h.1
    go_enter Tryd.func77, Tryd.ntmps77
    go_wp2_with (go_at_call 84; refine q.mono ?_; rintro e w1 ⟨rfl, b1⟩)
    have s1 := b1.size
    have HB : Hid (Below w.heap.size w w1) := b1
    clear q b1
    go_loopw [6] (fun n wr => ∃ (k : Nat) (m : Int), k ≤ s.size ∧ n = .int .i64 m ∧ Hid (m = numv ((sb s).take k)) ∧ 0 ≤ m ∧ m ≤ 1000000 ∧ wr = w1.iter s k) (fun _ wr => s.size - wr.iterPos w1.heap.size)
    case atStart => exact ⟨0, 0, Nat.zero_le _, rfl, rfl, by omega, by omega, rfl⟩
    case round =>
      obtain ⟨k, m, hk, rfl, HM, m0, m1, rfl⟩ := hrel
      by_cases hp : k < s.size
      · have hg := sb_get s k hp
        have hd : isd (s[k].toNat : Int) = true := List.all_eq_true.1 HA.out _ (List.mem_of_getElem? hg)
        have hc : 48 ≤ (s[k].toNat : Int) ∧ (s[k].toNat : Int) ≤ 57 := by simpa [isd] using hd
        have hnx : ∀ ty, (Instr.next (.pointer (some ⟨w1.heap.size, 0, none⟩)) true ty).run Tryd.prog (w1.iter s k) = _ := fun ty => run_next_ascii w1 s k ty hp (by omega)
        have HN : Hid (m * 10 + ((s[k].toNat : Int) - 48) = numv ((sb s).take (k + 1))) := by
          show _ = _
          rw [take_snoc hg, numv_snoc, HM.out]
        have HT := numv_take HA.out (k + 1)
        rw [← HN.out] at HT
        have HT' : Hid (m * 10 + ((s[k].toNat : Int) - 48) ≤ numv (sb s)) := HT
        obtain ⟨c, hcc⟩ : ∃ c : Int, c = (s[k].toNat : Int) := ⟨_, rfl⟩
        have hBk : Below w.heap.size w (w1.iter s (k + 1)) := HB.out.alloc s1 _
        rw [← hcc] at hnx hc HN HT'
        clear hg hd HT hcc
        by_cases hgt : 1000000 < m * 10 + (c - 48)
        · have HE : Hid (upTo (sb s) 1000000 = (0, false)) := by
            show _ = _
            unfold upTo
            rw [if_neg (fun h => by have := h.2; have := HT'.out; omega)]
          go_wp2
          go_ret2
          exact ⟨by rw [HE.out]; rfl, hBk⟩
        · go_wp2
          go_roundw
          case rel => exact ⟨k + 1, m * 10 + (c - 48), by omega, by go_num, HN, by omega, by omega, rfl⟩
          case measure => simp; omega
      · have hnx : ∀ ty, (Instr.next (.pointer (some ⟨w1.heap.size, 0, none⟩)) true ty).run Tryd.prog (w1.iter s k) = _ := fun ty => run_next_end w1 s k ty hp
        have HE : Hid (upTo (sb s) 1000000 = (m, true)) := by
          show _ = _
          have h := HM.out
          rw [List.take_of_length_le (by rw [sb_len]; omega)] at h
          unfold upTo
          rw [if_pos ⟨HX.out, by omega⟩, h]
        have hBk : Below w.heap.size w (w1.iter s k) := HB.out.alloc s1 _
        go_wp2
        go_ret2
        exact ⟨by rw [HE.out]; rfl, hBk⟩

end Go.Proofs.YtbopliahafkecaaDoor.Ver

/- Chapter 3, the landed code: a version that is read of a text. -/
namespace Go.Proofs.YtbopliahafkecaaDoor.Ver
open Go.RowKit Go.Proofs.YtbopliahafkecaaDoor.Mem Go.Proofs.YtbopliahafkecaaDoor.Laws Go.Proofs.YtbopliahafkecaaDoor.Bytes Go.Proofs.YtbopliahafkecaaDoor.Sha
set_option linter.unusedVariables false
set_option linter.unusedSimpArgs false

/-- three numbers and what stands behind them, if they are a right version's -/
def read3 (T : List ByteArray) (pr : ByteArray) : Option (Int × Int × Int × ByteArray) := match T with
  | [x, y, z] => if (upTo (sb x) 1000000).2 = true ∧ (upTo (sb y) 1000000).2 = true ∧ (upTo (sb z) 1000000).2 = true ∧ okV (upTo (sb x) 1000000).1 (upTo (sb y) 1000000).1 (upTo (sb z) 1000000).1 pr = true
      then some ((upTo (sb x) 1000000).1, (upTo (sb y) 1000000).1, (upTo (sb z) 1000000).1, pr) else none
  | _ => none

def readI (s : ByteArray) : Option (Int × Int × Int × ByteArray) :=
  if vAt s = true ∧ ¬ (0 ≤ dash (vOff s) ∧ (cut (vOff s)).2.size = 0) then read3 (splitT 46 (cut (vOff s)).1) (cut (vOff s)).2 else none

def ifaceQ : Option (Int × Int × Int × ByteArray) → Value
  | none => .nilIface
  | some q => .iface 44 (verQ q)

theorem read3_no {T : List ByteArray} (pr : ByteArray) (h : T.length ≠ 3) : read3 T pr = none := by
  match T, h with
  | [], _ => rfl
  | [_], _ => rfl
  | [_, _], _ => rfl
  | [_, _, _], h => exact absurd rfl h
  | _ :: _ :: _ :: _ :: _, _ => rfl

theorem read3_three (x y z pr : ByteArray) : read3 [x, y, z] pr = if (upTo (sb x) 1000000).2 = true ∧ (upTo (sb y) 1000000).2 = true ∧ (upTo (sb z) 1000000).2 = true ∧ okV (upTo (sb x) 1000000).1 (upTo (sb y) 1000000).1 (upTo (sb z) 1000000).1 pr = true
      then some ((upTo (sb x) 1000000).1, (upTo (sb y) 1000000).1, (upTo (sb z) 1000000).1, pr) else none := rfl

theorem three {T : List ByteArray} (h : T.length = 3) : ∃ x y z, T = [x, y, z] := by
  match T, h with
  | [x, y, z], _ => exact ⟨x, y, z, rfl⟩

/-- three numbers as cells -/
def r3 (x y z : Int) : Array Value := #[.int .i64 x, .int .i64 y, .int .i64 z]

end Go.Proofs.YtbopliahafkecaaDoor.Ver

/- Chapter 3, the landed code: a version that is read of a text, and whether it is one. -/
namespace Go.Proofs.YtbopliahafkecaaDoor.Ver
open Go.RowKit Go.Proofs.YtbopliahafkecaaDoor.Mem Go.Proofs.YtbopliahafkecaaDoor.Laws Go.Proofs.YtbopliahafkecaaDoor.Bytes Go.Proofs.YtbopliahafkecaaDoor.Sha
set_option linter.unusedVariables false
set_option linter.unusedSimpArgs false

def parseI (s : ByteArray) : (Int × Int × Int × ByteArray) × Bool := match readI s with
  | none => ((0, 0, 0, ⟨#[]⟩), false)
  | some q => (q, true)

theorem zeroV : (Tryd.prog.info? 44).map (·.zero) = some (some (.agg #[.int .i64 0, .int .i64 0, .int .i64 0, .string ⟨#[]⟩])) := by kernel_rfl

theorem ta_nil (w : World) : (Instr.typeAssert .nilIface 20 44 true).run Tryd.prog w = .ok (.tuple #[.agg #[.int .i64 0, .int .i64 0, .int .i64 0, .string ⟨#[]⟩], .bool false]) w := by
  obtain ⟨i, hi, hz⟩ := Option.map_eq_some_iff.1 zeroV
  simp [Instr.typeAssert, run_underlying Tryd.underlying44, zeroValue, typeInfo, hi, hz, go_sem]

theorem ta_ok (w : World) (v : Value) : (Instr.typeAssert (.iface 44 v) 20 44 true).run Tryd.prog w = .ok (.tuple #[v, .bool true]) w := by
  simp [Instr.typeAssert, run_underlying Tryd.underlying44, go_sem]

end Go.Proofs.YtbopliahafkecaaDoor.Ver

/- Chapter 3: a text that is read as the landed code reads it, against the specification's way; plain facts alone. -/
namespace Go.Proofs.YtbopliahafkecaaDoor.Ver
open Go.RowKit Go.Proofs.YtbopliahafkecaaDoor.Mem Go.Proofs.YtbopliahafkecaaDoor.Laws Go.Proofs.YtbopliahafkecaaDoor.Bytes Go.Proofs.YtbopliahafkecaaDoor.Sha
set_option linter.unusedVariables false
set_option linter.unusedSimpArgs false

theorem isNum_digs {l : List Int} (h : isNum l = true) : l.all isd = true ∧ l ≠ [] ∧ (1 < l.length → l.head? ≠ some 48) := by
  unfold isNum at h
  simp only [Bool.and_eq_true, Bool.or_eq_true, decide_eq_true_eq, Bool.not_eq_true', List.isEmpty_eq_false_iff, decide_eq_false_iff_not] at h
  refine ⟨h.1, ?_, ?_⟩
  · rcases h.2 with h2 | h2
    · rw [h2]; simp
    · exact h2.1
  · intro hl
    rcases h.2 with h2 | h2
    · rw [h2] at hl; simp at hl
    · exact h2.2

theorem isNum_of {l : List Int} (h : l.all isd = true) (h0 : l ≠ []) (h1 : l.head? ≠ some 48) : isNum l = true := by
  unfold isNum
  have : l.isEmpty = false := List.isEmpty_eq_false_iff.2 h0
  simp [h, this, h1]

theorem pow_one (n : Nat) : (1 : Int) ≤ 10 ^ n := by
  induction n with
  | zero => simp
  | succ n ih => rw [Int.pow_succ]; omega

theorem pow_up (m : Nat) : ∀ k : Nat, (10 : Int) ^ m ≤ 10 ^ (m + k) := by
  intro k
  induction k with
  | zero => simp
  | succ k ih =>
    have := pow_one (m + k)
    rw [← Nat.add_assoc, Int.pow_succ]
    omega

theorem pow_le {m n : Nat} (h : m ≤ n) : (10 : Int) ^ m ≤ 10 ^ n := by
  have := pow_up m (n - m)
  rw [show m + (n - m) = n by omega] at this
  exact this

theorem snoc_of {l : List Int} (h : l ≠ []) : ∃ l' c, l = l' ++ [c] := ⟨l.dropLast, l.getLast h, (List.dropLast_concat_getLast h).symm⟩

/-- digits whose first is no nought are no less than a power of ten -/
theorem numv_big : ∀ (n : Nat) (l : List Int), l.length = n + 1 → l.all isd = true → l.head? ≠ some 48 → (10 : Int) ^ n ≤ numv l := by
  intro n
  induction n with
  | zero =>
    intro l hl ha hh
    match l, hl with
    | [c], _ =>
      simp [isd] at ha
      simp at hh
      simp [numv]
      omega
  | succ n ih =>
    intro l hl ha hh
    obtain ⟨l', c, rfl⟩ := snoc_of (l := l) (by intro h; rw [h] at hl; simp at hl)
    have hl' : l'.length = n + 1 := by simp at hl; omega
    rw [List.all_append, Bool.and_eq_true] at ha
    have hc : 48 ≤ c ∧ c ≤ 57 := by simpa [isd] using ha.2
    have h2 : l'.head? ≠ some 48 := by
      cases l' with
      | nil => simp at hl'
      | cons x y => simpa using hh
    have := ih l' hl' ha.1 h2
    rw [numv_snoc, Int.pow_succ]
    omega

theorem num_upTo (l : List Int) : (inM (number l) = true ↔ (upTo l 1000000).2 = true) ∧ (inM (number l) = true → number l = (upTo l 1000000).1) := by
  by_cases hn : isNum l = true
  · obtain ⟨ha, h0, hh⟩ := isNum_digs hn
    have hp : 0 < l.length := List.length_pos_iff.2 h0
    by_cases h8 : l.length ≤ 8
    · have hnum : number l = numv l := by
        unfold number digs
        rw [if_neg]
        rw [ha, List.isEmpty_eq_false_iff.2 h0]
        rintro (h | h | h)
        · simp at h
        · omega
        · exact hh h.1 h.2
      have hv := numv_nonneg ha
      by_cases hm : numv l ≤ 1000000
      · have hu : upTo l 1000000 = (numv l, true) := by unfold upTo; rw [if_pos ⟨hn, hm⟩]
        rw [hu, hnum]
        exact ⟨⟨fun _ => rfl, fun _ => by unfold inM; simp [hv, hm]⟩, fun _ => rfl⟩
      · have hu : upTo l 1000000 = (0, false) := by unfold upTo; rw [if_neg (fun h => hm h.2)]
        rw [hu, hnum]
        have : inM (numv l) = false := by unfold inM; simp; omega
        rw [this]
        simp
    · have hb := numv_big (l.length - 1) l (by omega) ha (hh (by omega))
      have h8' : (10 : Int) ^ 8 ≤ 10 ^ (l.length - 1) := pow_le (by omega)
      have hu : upTo l 1000000 = (0, false) := by unfold upTo; rw [if_neg (fun h => by have := h.2; omega)]
      have hnum : number l = -1 := by unfold number; rw [if_pos (.inr (.inl (by omega)))]
      rw [hu, hnum]
      simp [inM]
  · have hu : upTo l 1000000 = (0, false) := by unfold upTo; rw [if_neg (fun h => hn h.1)]
    have hnum : number l < 0 := by
      by_cases h8 : l.length ≤ 8
      · have := isNum_number h8
        rw [Bool.eq_false_iff.2 hn] at this
        have := of_decide_eq_false this.symm
        omega
      · unfold number
        rw [if_pos (.inr (.inl (by omega)))]
        omega
    have : inM (number l) = false := by unfold inM; simp; omega
    rw [hu, this]
    simp

theorem digF_back : ∀ (f : Nat) (l : List Int), isNum l = true → numv l < 10 ^ (f + 1) → digF f (numv l).toNat = l := by
  intro f
  induction f with
  | zero =>
    intro l hn hv
    obtain ⟨ha, h0, hh⟩ := isNum_digs hn
    have hp : 0 < l.length := List.length_pos_iff.2 h0
    have h1 : l.length = 1 := by
      by_cases h : l.length = 1
      · exact h
      · have hb := numv_big (l.length - 1) l (by omega) ha (hh (by omega))
        have : (10 : Int) ^ 1 ≤ 10 ^ (l.length - 1) := pow_le (by omega)
        simp at hv this
        omega
    match l, h1 with
    | [c], _ =>
      have hc : 48 ≤ c ∧ c ≤ 57 := by simpa [isd] using ha
      simp [digF, numv]
      omega
  | succ f ih =>
    intro l hn hv
    obtain ⟨ha, h0, hh⟩ := isNum_digs hn
    have hp : 0 < l.length := List.length_pos_iff.2 h0
    by_cases h1 : l.length = 1
    · match l, h1 with
      | [c], _ =>
        have hc : 48 ≤ c ∧ c ≤ 57 := by simpa [isd] using ha
        have : (numv [c]).toNat < 10 := by simp [numv]; omega
        unfold digF
        rw [if_pos this]
        simp [numv]
        omega
    · obtain ⟨l', c, rfl⟩ := snoc_of h0
      have hl1 : 0 < l'.length := by simp at h1; exact List.length_pos_iff.2 h1
      have hh2 : l'.head? ≠ some 48 := by
        have := hh (by simp; omega)
        cases l' with
        | nil => simp at hl1
        | cons x y => simpa using this
      rw [List.all_append, Bool.and_eq_true] at ha
      have hc : 48 ≤ c ∧ c ≤ 57 := by simpa [isd] using ha.2
      have hn' : isNum l' = true := isNum_of ha.1 (List.length_pos_iff.1 hl1) hh2
      have hb := numv_big (l'.length - 1) l' (by omega) ha.1 hh2
      have hpos : (1 : Int) ≤ 10 ^ (l'.length - 1) := pow_one _
      have hs := numv_snoc l' c
      have hv' : numv l' < 10 ^ (f + 1) := by rw [hs, Int.pow_succ] at hv; omega
      have hr := ih l' hn' hv'
      rw [hs]
      have e1 : (numv l' * 10 + (c - 48)).toNat / 10 = (numv l').toNat := by omega
      have e2 : (((numv l' * 10 + (c - 48)).toNat % 10 : Nat) : Int) = c - 48 := by omega
      unfold digF
      rw [if_neg (by omega), e1, e2, hr]
      simp
      omega

/-- parts with a sign between -/
def join (b : Int) : List (List Int) → List Int
  | [] => []
  | [x] => x
  | x :: y :: r => x ++ [b] ++ join b (y :: r)

theorem join_split (b : Int) : ∀ (l cur : List Int), join b (splitL b cur l) = cur ++ l := by
  intro l
  induction l with
  | nil => intro cur; simp [splitL, join]
  | cons c r ih =>
    intro cur
    unfold splitL
    split
    · rename_i h
      have hp := splitL_pos b r []
      have hi := ih []
      cases hs : splitL b [] r with
      | nil => rw [hs] at hp; simp at hp
      | cons x y =>
        rw [hs] at hi
        rw [join, hi, h]
        simp
    · rw [ih]; simp

theorem eqT_iff (a b : ByteArray) : eqT a b = true ↔ a = b := by
  unfold eqT
  rw [beq_iff_eq, ByteArray.toList_eq, ByteArray.toList_eq]
  constructor
  · intro h; apply ByteArray.ext; apply Array.ext'; exact h
  · rintro rfl; rfl

theorem parse3_no {s u : ByteArray} (pr : ByteArray) (h : (splitT 46 u).length ≠ 3) : parse3 s u pr = ((0, 0, 0, ⟨#[]⟩), false) := by
  unfold parse3
  match splitT 46 u, h with
  | [], _ => rfl
  | [_], _ => rfl
  | [_, _], _ => rfl
  | [_, _, _], h => exact absurd rfl h
  | _ :: _ :: _ :: _ :: _, _ => rfl

theorem parse3_yes {s u pr x y z : ByteArray} (h : splitT 46 u = [x, y, z]) : parse3 s u pr = if okV (number (sb x)) (number (sb y)) (number (sb z)) pr = true ∧ eqT (Plain.txt (verText (number (sb x)) (number (sb y)) (number (sb z)) pr)) s = true then ((number (sb x), number (sb y), number (sb z), pr), true) else ((0, 0, 0, ⟨#[]⟩), false) := by
  unfold parse3
  rw [h]

def outQ : Option (Int × Int × Int × ByteArray) → (Int × Int × Int × ByteArray) × Bool
  | none => ((0, 0, 0, ⟨#[]⟩), false)
  | some q => (q, true)

theorem digits_back {l : List Int} (h : inM (number l) = true) : digF 6 (number l).toNat = l := by
  obtain ⟨h1, h2⟩ := num_upTo l
  have h3 := h1.1 h
  rw [h2 h]
  unfold upTo at h3 ⊢
  split at h3
  · rename_i hc
    rw [if_pos hc]
    exact digF_back 6 l hc.1 (by have := hc.2; simp; omega)
  · simp at h3

theorem read_core (s u pr : ByteArray) (d : Bool) (hS : sb s = [118] ++ sb u ++ (if d = true then [45] ++ sb pr else [])) (hd : d = false → pr.size = 0) :
    outQ (if ¬ (d = true ∧ pr.size = 0) then read3 (splitT 46 u) pr else none) = parse3 s u pr := by
  by_cases h3 : (splitT 46 u).length = 3
  · obtain ⟨x, y, z, hT⟩ := three h3
    have hu : sb u = sb x ++ [46] ++ (sb y ++ [46] ++ sb z) := by
      have h1 := splitT_sb 46 u
      rw [hT] at h1
      have h2 := join_split 46 (sb u) []
      unfold split at h1
      rw [← h1] at h2
      simpa [join] using h2.symm
    rw [parse3_yes hT, hT, read3_three]
    obtain ⟨a1, a2⟩ := num_upTo (sb x)
    obtain ⟨b1, b2⟩ := num_upTo (sb y)
    obtain ⟨c1, c2⟩ := num_upTo (sb z)
    by_cases hok : okV (number (sb x)) (number (sb y)) (number (sb z)) pr = true
    · have hk := hok
      unfold okV at hk
      simp only [Bool.and_eq_true] at hk
      obtain ⟨⟨⟨k1, k2⟩, k3⟩, _⟩ := hk
      have hr : ((upTo (sb x) 1000000).2 = true ∧ (upTo (sb y) 1000000).2 = true ∧ (upTo (sb z) 1000000).2 = true ∧ okV (upTo (sb x) 1000000).1 (upTo (sb y) 1000000).1 (upTo (sb z) 1000000).1 pr = true) := by
        refine ⟨a1.1 k1, b1.1 k2, c1.1 k3, ?_⟩
        rw [← a2 k1, ← b2 k2, ← c2 k3]
        exact hok
      rw [if_pos hr, ← a2 k1, ← b2 k2, ← c2 k3]
      have hvt : verText (number (sb x)) (number (sb y)) (number (sb z)) pr = [118] ++ sb u ++ (if pr.size = 0 then [] else [45] ++ sb pr) := by
        unfold verText
        rw [if_pos hok]
        unfold vt
        rw [digits_back k1, digits_back k2, digits_back k3, hu]
        simp [List.append_assoc]
      rw [hvt]
      cases d with
      | false =>
        have h0 := hd rfl
        have he : Plain.txt ([118] ++ sb u ++ (if pr.size = 0 then [] else [45] ++ sb pr)) = s := by
          have hs' : [118] ++ sb u ++ (if pr.size = 0 then [] else [45] ++ sb pr) = sb s := by rw [hS]; simp [h0]
          rw [hs', txt_sbv]
        rw [he, if_pos (by simp), if_pos ⟨hok, (eqT_iff s s).2 rfl⟩]
        rfl
      | true =>
        by_cases h0 : pr.size = 0
        · have hne : ¬ eqT (Plain.txt ([118] ++ sb u ++ (if pr.size = 0 then [] else [45] ++ sb pr))) s = true := by
            intro he
            have he := (eqT_iff _ _).1 he
            have h5 : (Plain.txt ([118] ++ sb u ++ (if pr.size = 0 then [] else [45] ++ sb pr))).size = s.size := by rw [he]
            rw [txt_sizev, ← sb_len s, hS] at h5
            simp [h0] at h5
          rw [if_neg (by simp [h0]), if_neg (fun h => hne h.2)]
          rfl
        · have he : Plain.txt ([118] ++ sb u ++ (if pr.size = 0 then [] else [45] ++ sb pr)) = s := by
            have hs' : [118] ++ sb u ++ (if pr.size = 0 then [] else [45] ++ sb pr) = sb s := by rw [hS]; simp [h0]
            rw [hs', txt_sbv]
          rw [he, if_pos (by simp [h0]), if_pos ⟨hok, (eqT_iff s s).2 rfl⟩]
          rfl
    · have hr : ¬ ((upTo (sb x) 1000000).2 = true ∧ (upTo (sb y) 1000000).2 = true ∧ (upTo (sb z) 1000000).2 = true ∧ okV (upTo (sb x) 1000000).1 (upTo (sb y) 1000000).1 (upTo (sb z) 1000000).1 pr = true) := by
        rintro ⟨h1, h2, h3, h4⟩
        rw [← a2 (a1.2 h1), ← b2 (b1.2 h2), ← c2 (c1.2 h3)] at h4
        exact hok h4
      rw [if_neg hr, ite_self, if_neg (fun h => hok h.1)]
      rfl
  · rw [parse3_no pr h3, read3_no pr h3]
    split <;> rfl

theorem sb_extract (s : ByteArray) (f k : Nat) (hk : k ≤ s.size) : sb (s.extract f k) = ((sb s).drop f).take (k - f) := by
  rw [ext_txt]
  refine sb_txtv fun x hx => sb_byt s x ?_
  exact List.mem_of_mem_drop (List.mem_of_mem_take hx)

theorem parse_same (s : ByteArray) : parseI s = parseV s := by
  have hout : parseI s = outQ (readI s) := by unfold parseI outQ; cases readI s <;> rfl
  rw [hout]
  unfold readI parseV
  by_cases hv : (sb s).head? = some 118
  · have hva : vAt s = true := by unfold vAt; simp [hv]
    have hvo : vOff s = s.extract 1 s.size := by unfold vOff; rw [if_pos hva]
    rw [if_pos hv, hvo, hva]
    have hS : sb s = [118] ++ sb (s.extract 1 s.size) := by
      cases hb : sb s with
      | nil => rw [hb] at hv; simp at hv
      | cons x y =>
        rw [hb] at hv
        simp at hv
        have hl := sb_len s
        rw [hb] at hl
        simp at hl
        rw [sb_extract s 1 s.size (Nat.le_refl _), hb, hv]
        simp
        rw [List.take_of_length_le (by omega)]
    obtain ⟨r, hr⟩ : ∃ r, r = s.extract 1 s.size := ⟨_, rfl⟩
    rw [← hr] at hS ⊢
    clear hr hvo
    cases hd : (sb r).findIdx? (fun c => c == 45) with
    | none =>
      have e1 : dash r = -1 := by unfold dash; rw [hd]
      have e2 : cut r = (r, ⟨#[]⟩) := by unfold cut; rw [hd]
      rw [e1, e2]
      have h := read_core s r ⟨#[]⟩ false (by simpa using hS) (fun _ => rfl)
      simpa using h
    | some i =>
      have e1 : dash r = (i : Int) := by unfold dash; rw [hd]
      have e2 : cut r = (r.extract 0 i, r.extract (i + 1) r.size) := by unfold cut; rw [hd]
      have hi := dash_some hd
      rw [e1, e2]
      have hc : (sb r)[i]? = some 45 := by
        obtain ⟨h1, h2, _⟩ := List.findIdx?_eq_some_iff_getElem.1 hd
        rw [List.getElem?_eq_getElem h1]
        simpa using h2
      have hsp : sb r = sb (r.extract 0 i) ++ ([45] ++ sb (r.extract (i + 1) r.size)) := by
        rw [sb_extract r 0 i (by omega), sb_extract r (i + 1) r.size (Nat.le_refl _)]
        conv => lhs; rw [← List.take_append_drop i (sb r), drop_consI hc]
        simp
        rw [List.take_of_length_le (by simp [sb_len])]
      have h := read_core s (r.extract 0 i) (r.extract (i + 1) r.size) true (by rw [hS, hsp]; simp) (fun h => by cases h)
      simpa using h
  · have hva : vAt s = false := by unfold vAt; simp [hv]
    rw [if_neg hv, if_neg (by rw [hva]; simp)]
    rfl

end Go.Proofs.YtbopliahafkecaaDoor.Ver

/- Chapter 3: a version comes back of its text; plain facts alone. -/
namespace Go.Proofs.YtbopliahafkecaaDoor.Ver
open Go.RowKit Go.Proofs.YtbopliahafkecaaDoor.Mem Go.Proofs.YtbopliahafkecaaDoor.Laws Go.Proofs.YtbopliahafkecaaDoor.Bytes Go.Proofs.YtbopliahafkecaaDoor.Sha
set_option linter.unusedVariables false
set_option linter.unusedSimpArgs false

theorem digF_good : ∀ (f n : Nat), n < 10 ^ (f + 1) → (digF f n).all isd = true ∧ numv (digF f n) = (n : Int) ∧ (0 < n → (digF f n).head? ≠ some 48) ∧ (n = 0 → digF f n = [48]) := by
  intro f
  induction f with
  | zero =>
    intro n hn
    have hn' : n < 10 := by simpa using hn
    refine ⟨by simp [digF, isd]; omega, by simp [digF, numv]; omega, fun h => by simp [digF]; omega, fun h => by simp [digF, h]⟩
  | succ f ih =>
    intro n hn
    by_cases h : n < 10
    · have e : digF (f + 1) n = [48 + (n : Int)] := by rw [digF, if_pos h]
      rw [e]
      refine ⟨by simp [isd]; omega, by simp [numv]; omega, fun h => by simp; omega, fun h => by simp [h]⟩
    · have e : digF (f + 1) n = digF f (n / 10) ++ [48 + ((n % 10 : Nat) : Int)] := by rw [digF, if_neg h]
      obtain ⟨i1, i2, i3, i4⟩ := ih (n / 10) (by rw [Nat.pow_succ] at hn; omega)
      have hl := digF_len f (n / 10)
      rw [e]
      refine ⟨?_, ?_, fun _ => ?_, fun h => by omega⟩
      · rw [List.all_append, i1]
        simp [isd]
        omega
      · rw [numv_snoc, i2]
        omega
      · have := i3 (by omega)
        cases hd : digF f (n / 10) with
        | nil => rw [hd] at hl; simp at hl
        | cons x y => rw [hd] at this; simpa using this

theorem digF_num {n : Nat} (h : n ≤ 1000000) : number (digF 6 n) = (n : Int) := by
  obtain ⟨i1, i2, i3, i4⟩ := digF_good 6 n (by omega)
  have hl := digF_len 6 n
  unfold number digs
  rw [if_neg, i2]
  rw [i1]
  rintro (h1 | h1 | h1)
  · cases hd : digF 6 n with
    | nil => rw [hd] at hl; simp at hl
    | cons x y => rw [hd] at h1; simp at h1
  · omega
  · by_cases h0 : n = 0
    · rw [i4 h0] at h1
      simp at h1
    · exact i3 (by omega) h1.2

theorem digF_no {f n : Nat} (h : n < 10 ^ (f + 1)) (b : Int) (hb : b < 48) : ∀ x ∈ digF f n, x ≠ b := by
  obtain ⟨i1, _⟩ := digF_good f n h
  intro x hx
  have := List.all_eq_true.1 i1 x hx
  simp [isd] at this
  omega

theorem split_part (b : Int) (x r : List Int) (h : ∀ y ∈ x, y ≠ b) : splitL b [] (x ++ [b] ++ r) = x :: splitL b [] r := by
  rw [splitL_skip b x.length (x ++ [b] ++ r) [] (by intro y hy; simp at hy; exact h y hy)]
  simp [splitL]

theorem split_last (b : Int) (x : List Int) (h : ∀ y ∈ x, y ≠ b) : splitL b [] x = [x] := by
  rw [splitL_skip b x.length x [] (by intro y hy; simp at hy; exact h y hy)]
  simp [splitL]

theorem findIdx_app (x r : List Int) (h : ∀ y ∈ x, y ≠ 45) : (x ++ [45] ++ r).findIdx? (fun c => c == 45) = some x.length := by
  rw [List.findIdx?_eq_some_iff_getElem]
  refine ⟨by simp, by simp, fun j hj => ?_⟩
  have : (x ++ [45] ++ r)[j]'(by simp; omega) = x[j] := by simp [List.getElem_append, hj]
  rw [this]
  simp
  exact h _ (List.getElem_mem hj)

theorem findIdx_none (x : List Int) (h : ∀ y ∈ x, y ≠ 45) : x.findIdx? (fun c => c == 45) = none := by
  rw [List.findIdx?_eq_none_iff]
  intro y hy
  simp
  exact h y hy

theorem splitT_of {s : ByteArray} {x y z : List Int} (hs : sb s = x ++ [46] ++ (y ++ [46] ++ z)) (hx : ∀ q ∈ x, q ≠ 46) (hy : ∀ q ∈ y, q ≠ 46) (hz : ∀ q ∈ z, q ≠ 46) : splitT 46 s = [Plain.txt x, Plain.txt y, Plain.txt z] := by
  unfold splitT split
  rw [hs, split_part 46 x _ hx, split_part 46 y _ hy, split_last 46 z hz]
  rfl

theorem nilB {p : ByteArray} (h : p.size = 0) : p = ⟨#[]⟩ := by
  have h2 : p.data.size = 0 := h
  apply ByteArray.ext
  exact Array.eq_empty_of_size_eq_zero h2

theorem parse_text {a b c : Int} {p : ByteArray} (hok : okV a b c p = true) : parseV (Plain.txt (vt a b c p)) = ((a, b, c, p), true) := by
  have hk := hok
  unfold okV at hk
  simp only [Bool.and_eq_true] at hk
  obtain ⟨n1, rfl, h1⟩ := inM_nat hk.1.1.1
  obtain ⟨n2, rfl, h2⟩ := inM_nat hk.1.1.2
  obtain ⟨n3, rfl, h3⟩ := inM_nat hk.1.2
  have y1 := digF_byt 6 n1 (by omega)
  have y2 := digF_byt 6 n2 (by omega)
  have y3 := digF_byt 6 n3 (by omega)
  have o46 : Byt [46] := fun x hx => by rw [List.mem_singleton] at hx; omega
  have o45 : Byt [45] := fun x hx => by rw [List.mem_singleton] at hx; omega
  have o118 : Byt [118] := fun x hx => by rw [List.mem_singleton] at hx; omega
  obtain ⟨N, hN⟩ : ∃ N, N = digF 6 n1 ++ [46] ++ (digF 6 n2 ++ [46] ++ digF 6 n3) := ⟨_, rfl⟩
  have yN : Byt N := by rw [hN]; exact (y1.app o46).app ((y2.app o46).app y3)
  have hv : vt n1 n2 n3 p = [118] ++ (N ++ (if p.size = 0 then [] else [45] ++ sb p)) := by
    unfold vt
    rw [hN]
    simp [List.append_assoc]
  have yR : Byt (N ++ (if p.size = 0 then [] else [45] ++ sb p)) := by
    refine yN.app ?_
    split
    · intro x hx; cases hx
    · exact o45.app (sb_byt p)
  have hno : ∀ y ∈ N, y ≠ 45 := by
    intro y hy
    rw [hN] at hy
    simp at hy
    rcases hy with hy | rfl | hy | rfl | hy
    · exact digF_no (by omega) 45 (by omega) y hy
    · omega
    · exact digF_no (by omega) 45 (by omega) y hy
    · omega
    · exact digF_no (by omega) 45 (by omega) y hy
  have hsb : sb (Plain.txt (vt n1 n2 n3 p)) = vt n1 n2 n3 p := sb_txtv (by rw [hv]; exact o118.app yR)
  obtain ⟨s, hs⟩ : ∃ s, s = Plain.txt (vt n1 n2 n3 p) := ⟨_, rfl⟩
  rw [← hs] at hsb ⊢
  unfold parseV
  rw [if_pos (by rw [hsb, hv]; rfl)]
  have hr : sb (s.extract 1 s.size) = N ++ (if p.size = 0 then [] else [45] ++ sb p) := by
    rw [sb_extract s 1 s.size (Nat.le_refl _), hsb, hv]
    have hl := sb_len s
    rw [hsb, hv] at hl
    simp at hl ⊢
    rw [List.take_of_length_le (by simp; omega)]
  obtain ⟨r, hrr⟩ : ∃ r, r = s.extract 1 s.size := ⟨_, rfl⟩
  rw [← hrr] at hr ⊢
  have hcut : sb (cut r).1 = N ∧ (cut r).2 = p := by
    by_cases hp : p.size = 0
    · rw [if_pos hp, List.append_nil] at hr
      unfold cut
      rw [hr, findIdx_none N hno]
      refine ⟨hr, ?_⟩
      exact (nilB hp).symm
    · rw [if_neg hp, ← List.append_assoc] at hr
      unfold cut
      rw [hr, findIdx_app N (sb p) hno]
      have hl : r.size = N.length + 1 + p.size := by
        have h5 := sb_len r
        rw [hr, List.length_append, List.length_append, sb_len] at h5
        exact h5.symm
      refine ⟨?_, ?_⟩
      · show sb (r.extract 0 N.length) = N
        rw [sb_extract r 0 N.length (by omega), hr]
        simp
      · show r.extract (N.length + 1) r.size = p
        have : sb (r.extract (N.length + 1) r.size) = sb p := by
          rw [sb_extract r (N.length + 1) r.size (Nat.le_refl _), hr]
          simp
          rw [List.take_of_length_le (by rw [sb_len]; omega)]
        rw [← txt_sbv (r.extract (N.length + 1) r.size), this, txt_sbv]
  obtain ⟨u, pr, huv⟩ : ∃ u pr, cut r = (u, pr) := ⟨_, _, rfl⟩
  rw [huv] at hcut ⊢
  simp only at hcut ⊢
  obtain ⟨hu, rfl⟩ := hcut
  have hT := splitT_of (s := u) (by rw [hu, hN]) (digF_no (by omega) 46 (by omega)) (digF_no (by omega) 46 (by omega)) (digF_no (by omega) 46 (by omega))
  rw [parse3_yes hT, sb_txtv y1, sb_txtv y2, sb_txtv y3, digF_num h1, digF_num h2, digF_num h3, if_pos]
  refine ⟨hok, (eqT_iff _ _).2 ?_⟩
  unfold verText
  rw [if_pos hok, hs]

theorem parse_back {s : ByteArray} {a b c : Int} {p : ByteArray} (h : parseV s = ((a, b, c, p), true)) : okV a b c p = true ∧ Plain.txt (verText a b c p) = s := by
  unfold parseV at h
  split at h
  · by_cases h3 : (splitT 46 (cut (s.extract 1 s.size)).1).length = 3
    · obtain ⟨x, y, z, hT⟩ := three h3
      rw [parse3_yes hT] at h
      split at h
      · rename_i hc
        simp only [Prod.mk.injEq, and_true] at h
        obtain ⟨rfl, rfl, rfl, rfl⟩ := h
        exact ⟨hc.1, (eqT_iff _ _).1 hc.2⟩
      · simp at h
    · rw [parse3_no _ h3] at h
      simp at h
  · simp at h

end Go.Proofs.YtbopliahafkecaaDoor.Ver

/- Chapter 5: names; plain facts alone. -/
namespace Go.Proofs.YtbopliahafkecaaDoor.Ent
open Go.RowKit Go.Proofs.YtbopliahafkecaaDoor.Mem Go.Proofs.YtbopliahafkecaaDoor.Laws Go.Proofs.YtbopliahafkecaaDoor.Bytes Go.Proofs.YtbopliahafkecaaDoor.Sha Go.Proofs.YtbopliahafkecaaDoor.Ver Go.Proofs.YtbopliahafkecaaDoor.Mod
set_option linter.unusedVariables false
set_option linter.unusedSimpArgs false

/-- a sign that is no mark between parts is in a part -/
theorem in_part (b : Int) : ∀ (l cur : List Int) (x : Int), x ≠ b → (x ∈ l ∨ x ∈ cur) → ∃ p ∈ splitL b cur l, x ∈ p := by
  intro l
  induction l with
  | nil =>
    intro cur x hx h
    rcases h with h | h
    · cases h
    · exact ⟨cur, by simp [splitL], h⟩
  | cons c r ih =>
    intro cur x hx h
    rw [splitL]
    split
    · rename_i hc
      rcases h with h | h
      · rcases List.mem_cons.1 h with rfl | h
        · exact absurd hc hx
        · obtain ⟨p, hp, hxp⟩ := ih [] x hx (.inl h)
          exact ⟨p, List.mem_cons_of_mem _ hp, hxp⟩
      · exact ⟨cur, by simp, h⟩
    · obtain ⟨p, hp, hxp⟩ := ih (cur ++ [c]) x hx (by
        rcases h with h | h
        · rcases List.mem_cons.1 h with rfl | h
          · exact .inr (by simp)
          · exact .inl h
        · exact .inr (by simp [h]))
      exact ⟨p, hp, hxp⟩

theorem signs4_no : ∀ (l : List Int) (i : Nat), signs4 i l = true → ∀ x ∈ l, x ≠ 64 := by
  intro l
  induction l with
  | nil => intro i _ x hx; cases hx
  | cons c r ih =>
    intro i h x hx
    simp only [signs4, Bool.and_eq_true] at h
    rcases List.mem_cons.1 hx with rfl | hx
    · rintro rfl
      have := h.1
      simp [sign4, plain4] at this
    · exact ih _ h.2 x hx

theorem path_no {l : List Int} (h : path4 l = true) : ∀ x ∈ l, x ≠ 64 := by
  intro x hx hx64
  subst hx64
  obtain ⟨p, hp, hxp⟩ := in_part 47 l [] 64 (by omega) (.inl hx)
  unfold path4 at h
  simp only [Bool.and_eq_true, List.all_eq_true] at h
  have := h.1.1 p hp
  unfold part4 at this
  rw [Bool.and_eq_true] at this
  exact signs4_no p 0 this.1 64 hxp rfl

theorem vt_no {a b c : Int} {p : ByteArray} (h : okV a b c p = true) : ∀ x ∈ vt a b c p, x ≠ 64 := by
  unfold okV at h
  simp only [Bool.and_eq_true, Bool.or_eq_true] at h
  obtain ⟨⟨⟨ha, hb⟩, hc⟩, hp⟩ := h
  have hd : ∀ {z : Int}, inM z = true → ∀ x ∈ digF 6 z.toNat, x ≠ 64 := by
    intro z hz x hx hx64
    obtain ⟨m, rfl, hm⟩ := inM_nat hz
    have := (digF_good 6 m (by simp; omega)).1
    rw [List.all_eq_true] at this
    have h2 := this x (by simpa using hx)
    subst hx64
    simp [isd] at h2
  intro x hx hx64
  subst hx64
  unfold vt at hx
  simp only [List.mem_append, List.mem_singleton] at hx
  rcases hx with (((((hx | hx) | hx) | hx) | hx) | hx) | hx
  · omega
  · exact hd ha 64 hx rfl
  · omega
  · exact hd hb 64 hx rfl
  · omega
  · exact hd hc 64 hx rfl
  · split at hx
    · cases hx
    · rename_i hz
      simp only [List.mem_append, List.mem_singleton] at hx
      rcases hx with hx | hx
      · omega
      · rcases hp with hp | hp
        · exact hz (of_decide_eq_true hp)
        · obtain ⟨q, hq, hxq⟩ := in_part 46 (sb p) [] 64 (by omega) (.inl hx)
          unfold Ver.pre at hp
          rw [Bool.and_eq_true, List.all_eq_true] at hp
          have h7 : Ver.part q = true := hp.1 q hq
          unfold Ver.part at h7
          rw [Bool.and_eq_true, Bool.and_eq_true] at h7
          have h8 := List.all_eq_true.1 h7.1.1 64 hxq
          simp [psign] at h8

theorem ok_parts {n : Nd} (h : n.ok = true) : path4 (sb n.path) = true ∧ okV n.a n.b n.c n.pre = true := by
  unfold Nd.ok fits4 at h
  simp only [Bool.and_eq_true, decide_eq_true_eq] at h
  refine ⟨?_, h.1.2⟩
  by_cases hp : path4 (sb n.path) = true
  · exact hp
  · have h1 := h.1.1
    unfold major4 at h1
    rw [if_neg hp] at h1
    omega

theorem sb_app (a b : ByteArray) : sb (a ++ b) = sb a ++ sb b := by unfold sb; simp

theorem sb_at : sb ⟨#[64]⟩ = [64] := rfl

theorem verText_ok {a b c : Int} {p : ByteArray} (h : okV a b c p = true) : verText a b c p = vt a b c p := by unfold verText; rw [if_pos h]

theorem vt_byt {a b c : Int} {p : ByteArray} (h : okV a b c p = true) : Byt (vt a b c p) := by
  unfold okV at h
  simp only [Bool.and_eq_true, Bool.or_eq_true] at h
  obtain ⟨⟨⟨ha, hb⟩, hc⟩, hp⟩ := h
  have hd : ∀ {z : Int}, inM z = true → Byt (digF 6 z.toNat) := by
    intro z hz x hx
    obtain ⟨m, rfl, hm⟩ := inM_nat hz
    have := (digF_good 6 m (by simp; omega)).1
    rw [List.all_eq_true] at this
    have h2 := this x (by simpa using hx)
    simp [isd] at h2
    omega
  have h1 : ∀ {z : Int}, 0 ≤ z ∧ z ≤ 255 → Byt [z] := by intro z hz x hx; simp at hx; omega
  unfold vt
  refine ((((((h1 (by omega)).app (hd ha)).app (h1 (by omega))).app (hd hb)).app (h1 (by omega))).app (hd hc)).app ?_
  split
  · intro x hx; cases hx
  · exact (h1 (by omega)).app (sb_byt p)

end Go.Proofs.YtbopliahafkecaaDoor.Ent

/- Plain lists and numbers: what was put is got back. -/
namespace Go.Proofs.YtbopliahafkecaaDoor.Plain
open Go.Proofs.YtbopliahafkecaaDoor.Mem Go.Proofs.YtbopliahafkecaaDoor.Laws Go.Proofs.YtbopliahafkecaaDoor.Puts Go.Proofs.YtbopliahafkecaaDoor.Gets

theorem split_mul (m : Nat) (W : Int) : ((m % 128 : Nat) : Int) * W + ((m / 128 : Nat) : Int) * (W * 128) = (m : Int) * W := by
  have h : (m : Int) = ((m / 128 : Nat) : Int) * 128 + ((m % 128 : Nat) : Int) := by omega
  have e : (m : Int) * W = (((m / 128 : Nat) : Int) * 128 + ((m % 128 : Nat) : Int)) * W := by rw [← h]
  rw [e, Int.add_mul, Int.mul_assoc, Int.mul_comm 128 W, Int.add_comm]

theorem dec_enc (f : Nat) : ∀ (m : Nat) (k : Nat) (N W : Int) (r : List Int), m ≤ f → 0 ≤ N → 0 ≤ W → N + (m : Int) * W ≤ 1000000000 → k + (enc m).length ≤ 5 → (k = 0 ∨ 0 < m) → dec k N W (enc m ++ r) = some (N + (m : Int) * W, k + (enc m).length) := by
  induction f with
  | zero =>
    intro m k N W r hm h0 hW hN hk hz
    obtain rfl : m = 0 := by omega
    rw [enc_small (by omega)] at hk ⊢
    have hk0 : k = 0 := by omega
    subst hk0
    exact dec_good (by omega) (by omega) (by rintro (h | h) <;> simp at * <;> omega)
  | succ f ih =>
    intro m k N W r hm h0 hW hN hk hz
    by_cases hs : m < 128
    · rw [enc_small hs] at hk ⊢
      have e : ((m : Nat) : Int) % 128 = (m : Int) := by omega
      have hg := dec_good (k := k) (N := N) (W := W) (c := (m : Int)) (r := r) (by simp at hk; omega) (by omega) (by rw [e]; omega)
      rw [e] at hg
      exact hg
    · rw [enc_step hs] at hk ⊢
      simp only [List.length_cons] at hk
      have e : ((m % 128 + 128 : Nat) : Int) % 128 = ((m % 128 : Nat) : Int) := by omega
      have hstep := dec_more (k := k) (N := N) (W := W) (c := ((m % 128 + 128 : Nat) : Int)) (r := enc (m / 128) ++ r) (by omega) (by omega)
      rw [e] at hstep
      have hsm := split_mul m W
      have hp : 0 ≤ ((m % 128 : Nat) : Int) * W := Int.mul_nonneg (by omega) hW
      have hih := ih (m / 128) (k + 1) (N + ((m % 128 : Nat) : Int) * W) (W * 128) r (by omega) (by omega) (by omega) (by omega) (by omega) (.inr (by omega))
      rw [List.cons_append, hstep, hih]
      simp only [List.length_cons, Option.some.injEq, Prod.mk.injEq]
      omega

theorem num_eq (n : Int) : num n = enc (clampN n).toNat := rfl

/-- A number comes back. -/
theorem getNum_back (ys r : List Int) (n : Int) : getNum (ys ++ (num n ++ r)) (ys.length : Int) = (clampN n, (ys.length : Int) + (num n).length, true) := by
  have hb := clampN_bd n
  have hl := num_len n
  have e : ((clampN n).toNat : Int) = clampN n := by omega
  have hd := dec_enc (clampN n).toNat (clampN n).toNat 0 0 1 r (Nat.le_refl _) (by omega) (by omega) (by omega) (by rw [← num_eq]; omega) (.inl rfl)
  rw [← num_eq] at hd
  have hlen : ys.length < (ys ++ (num n ++ r)).length := by simp; omega
  have h := getNum_some (xs := ys ++ (num n ++ r)) (a := ys.length) hlen (by rw [List.drop_append, List.drop_eq_nil_of_le (Nat.le_refl _), Nat.sub_self, List.nil_append, List.drop_zero]; exact hd)
  rw [h]
  simp only [Prod.mk.injEq, and_true]
  omega

theorem dec_big (l : List Int) : ∀ (k : Nat) (N W : Int), (∀ c ∈ l, 128 ≤ c) → dec k N W l = none := by
  induction l with
  | nil => intro k N W _; rfl
  | cons c r ih =>
    intro k N W h
    by_cases h5 : k = 5
    · subst h5; exact dec_five
    · rw [dec_more h5 (h c (List.mem_cons_self ..))]
      exact ih _ _ _ (fun x hx => h x (List.mem_cons_of_mem _ hx))

theorem enc_front (f : Nat) : ∀ m, m ≤ f → ∀ c ∈ (enc m).dropLast, 128 ≤ c := by
  induction f with
  | zero => intro m hm; rw [enc_small (by omega)]; simp
  | succ f ih =>
    intro m hm
    by_cases hs : m < 128
    · rw [enc_small hs]; simp
    · rw [enc_step hs]
      have hne : enc (m / 128) ≠ [] := by
        intro h; have := enc_len (m / 128); rw [h] at this; simp at this
      rw [List.dropLast_cons_of_ne_nil hne]
      intro c hc
      rcases List.mem_cons.1 hc with rfl | hc
      · omega
      · exact ih (m / 128) (by omega) c hc

/-- A number that lacks its last byte does not. -/
theorem getNum_cut (ys : List Int) (n : Int) : getNum ((ys ++ num n).take ((ys ++ num n).length - 1)) (ys.length : Int) = (0, 0, false) := by
  have hl := num_len n
  have hne : num n ≠ [] := by intro h; rw [h] at hl; simp at hl
  have e : (ys ++ num n).take ((ys ++ num n).length - 1) = ys ++ (num n).dropLast := by
    rw [← List.dropLast_eq_take, List.dropLast_append_of_ne_nil hne]
  rw [e]
  by_cases h0 : (num n).dropLast.length = 0
  · exact getNum_out (.inr (by simp [List.length_append] at *; omega))
  · refine getNum_none (by rw [List.length_append]; omega) ?_
    rw [List.drop_append, List.drop_eq_nil_of_le (Nat.le_refl _), Nat.sub_self, List.nil_append, List.drop_zero]
    exact dec_big _ _ _ _ (enc_front _ _ (Nat.le_refl _))

theorem u8s_sb (s : ByteArray) : u8s (sb s) = s.data.toList := by
  unfold u8s sb
  rw [List.map_map]
  have h : ((fun x : Int => UInt8.ofNat x.toNat) ∘ fun b : UInt8 => (b.toNat : Int)) = id := by
    funext b
    simp
  rw [h, List.map_id]

theorem txt_sb (s : ByteArray) : txt (sb s) = s := by
  unfold txt
  rw [u8s_sb]

theorem clamp_size {n : Nat} (h : n ≤ 1000000000) : clampN (n : Int) = (n : Int) := by
  unfold clampN
  rw [if_neg (by omega), if_neg (by omega)]

/-- A text comes back. -/
theorem getText_back (ys r : List Int) (s : ByteArray) (hs : s.size ≤ 1000000000) : getText (ys ++ (tx s ++ r)) (ys.length : Int) = (s, (ys.length : Int) + (tx s).length, true) := by
  have hg := getNum_back ys (sb s ++ r) (s.size : Int)
  rw [clamp_size hs] at hg
  have e : ys ++ (tx s ++ r) = ys ++ (num (s.size : Int) ++ (sb s ++ r)) := by unfold tx; rw [List.append_assoc]
  rw [e]
  have hl : (ys ++ (num (s.size : Int) ++ (sb s ++ r))).length = ys.length + ((num (s.size : Int)).length + (s.size + r.length)) := by
    simp only [List.length_append, sb_len]
  have hg2 : getNum (ys ++ (num (s.size : Int) ++ (sb s ++ r))) (ys.length : Int) = ((s.size : Int), ((ys.length + (num (s.size : Int)).length : Nat) : Int), true) := by
    rw [hg]; simp
  have h := getText_yes hg2 (by rw [hl]; omega)
  rw [h]
  have hd : ((ys ++ (num (s.size : Int) ++ (sb s ++ r))).drop (ys.length + (num (s.size : Int)).length)).take s.size = sb s := by
    rw [← List.append_assoc, List.drop_append, List.drop_eq_nil_of_le (by simp), List.nil_append, show ys.length + (num (s.size : Int)).length - (ys ++ num (s.size : Int)).length = 0 by simp, List.drop_zero, List.take_append_of_le_length (by rw [sb_len]; exact Nat.le_refl _), List.take_of_length_le (by rw [sb_len]; exact Nat.le_refl _)]
  rw [hd, txt_sb]
  have ht : (tx s).length = (num (s.size : Int)).length + s.size := by unfold tx; rw [List.length_append, sb_len]
  rw [ht]
  simp only [Prod.mk.injEq, and_true, true_and]
  omega

theorem rd_back (l : List ByteArray) : ∀ (ys r : List Int), (∀ s ∈ l, s.size ≤ 1000000000) → rd (ys ++ (txs l ++ r)) l.length (ys.length : Int) = some (l, (ys.length : Int) + (txs l).length) := by
  induction l with
  | nil => intro ys r _; simp [rd, txs]
  | cons s t ih =>
    intro ys r hs
    have e : ys ++ (txs (s :: t) ++ r) = ys ++ (tx s ++ (txs t ++ r)) := by simp only [txs, List.append_assoc]
    have e2 : ys ++ (tx s ++ (txs t ++ r)) = (ys ++ tx s) ++ (txs t ++ r) := by simp only [List.append_assoc]
    rw [e, List.length_cons, rd_yes (getText_back ys (txs t ++ r) s (hs s (List.mem_cons_self ..))), e2]
    have h := ih (ys ++ tx s) r (fun x hx => hs x (List.mem_cons_of_mem _ hx))
    have e3 : ((ys ++ tx s).length : Int) = (ys.length : Int) + ((tx s).length : Int) := by rw [List.length_append]; omega
    rw [e3] at h
    rw [h]
    simp only [Option.map_some, txs, List.length_append, Option.some.injEq, Prod.mk.injEq, true_and]
    omega

/-- Texts come back. -/
theorem getTexts_back (ys r : List Int) (l : List ByteArray) (hl : l.length ≤ 200) (hs : ∀ s ∈ l, s.size ≤ 1000000000) :
    getTexts ((ys ++ num (l.length : Int) ++ txs l) ++ r) (ys.length : Int) = (l, ((ys ++ num (l.length : Int) ++ txs l).length : Int), true) := by
  have hg := getNum_back ys (txs l ++ r) (l.length : Int)
  rw [clamp_size (by omega)] at hg
  have e : (ys ++ num (l.length : Int) ++ txs l) ++ r = ys ++ (num (l.length : Int) ++ (txs l ++ r)) := by simp only [List.append_assoc]
  have e2 : ys ++ (num (l.length : Int) ++ (txs l ++ r)) = (ys ++ num (l.length : Int)) ++ (txs l ++ r) := by simp only [List.append_assoc]
  rw [e]
  have hr := rd_back l (ys ++ num (l.length : Int)) r hs
  rw [← e2] at hr
  have e3 : ((ys ++ num (l.length : Int)).length : Int) = (ys.length : Int) + ((num (l.length : Int)).length : Int) := by rw [List.length_append]; omega
  rw [e3] at hr
  rw [getTexts_some hg hl hr]
  simp only [List.length_append, Prod.mk.injEq, true_and, and_true]
  omega

end Go.Proofs.YtbopliahafkecaaDoor.Plain

/- Chapter 5: names and texts and back; plain facts alone. -/
namespace Go.Proofs.YtbopliahafkecaaDoor.Ent
open Go.RowKit Go.Proofs.YtbopliahafkecaaDoor.Mem Go.Proofs.YtbopliahafkecaaDoor.Laws Go.Proofs.YtbopliahafkecaaDoor.Bytes Go.Proofs.YtbopliahafkecaaDoor.Sha Go.Proofs.YtbopliahafkecaaDoor.Ver Go.Proofs.YtbopliahafkecaaDoor.Mod
set_option linter.unusedVariables false
set_option linter.unusedSimpArgs false

theorem name_sb {n : Nd} (h : n.ok = true) : sb (name5 n) = sb n.path ++ [64] ++ vt n.a n.b n.c n.pre := by
  unfold name5
  have hv := (ok_parts h).2
  rw [if_pos h, sb_app, sb_app, sb_at, verText_ok hv, sb_txtv (vt_byt hv)]

/-- a name comes back -/
theorem pname_name {n : Nd} (h : n.ok = true) : pname (name5 n) = (n, true) := by
  obtain ⟨hp, hv⟩ := ok_parts h
  have hsp : splitT 64 (name5 n) = [n.path, Plain.txt (vt n.a n.b n.c n.pre)] := by
    unfold splitT split
    rw [name_sb h, split_part 64 _ _ (path_no hp), split_last 64 _ (vt_no hv)]
    simp [txt_sbv]
  unfold pname
  rw [hsp]
  simp only
  rw [parse_text hv]
  unfold pn
  have h' : fits4 n.path n.a n.b n.c n.pre = true := h
  simp only [h', and_self, if_true]

/-- what is read as a name has that name -/
theorem name_pname {s : ByteArray} {n : Nd} (h : pname s = (n, true)) : n.ok = true ∧ name5 n = s := by
  unfold pname at h
  split at h
  · rename_i x y hxy
    unfold pn at h
    split at h
    · rename_i hc
      obtain ⟨⟨a, b, c, p⟩, r, hpv⟩ : ∃ q r, parseV y = (q, r) := ⟨_, _, rfl⟩
      rw [hpv] at h hc
      simp only [Prod.mk.injEq, and_true] at h hc
      obtain ⟨rfl, hf⟩ := hc
      subst h
      have hok : (⟨x, a, b, c, p⟩ : Nd).ok = true := hf
      obtain ⟨hv, ht⟩ := parse_back hpv
      refine ⟨hok, ?_⟩
      unfold name5
      rw [if_pos hok]
      simp only
      rw [ht]
      have hj := join_split 64 (sb s) []
      have hT := splitT_sb 64 s
      rw [hxy] at hT
      have hT' : splitL 64 [] (sb s) = [sb x, sb y] := hT.symm
      rw [hT'] at hj
      simp only [join, List.nil_append] at hj
      rw [← txt_sbv (x ++ ⟨#[64]⟩ ++ y), sb_app, sb_app, sb_at, hj, txt_sbv]
    · simp at h
  · simp at h

theorem dec_canon : ∀ (l : List Int) (k : Nat) (N W n : Int) (k' : Nat), Plain.dec k N W l = some (n, k') → Byt l → ∃ m : Nat, n = N + (m : Int) * W ∧ k' = k + (Plain.enc m).length ∧ l = Plain.enc m ++ l.drop (Plain.enc m).length ∧ (0 < k → 0 < m) := by
  intro l
  induction l with
  | nil => intro k N W n k' h; simp [Plain.dec] at h
  | cons c r ih =>
    intro k N W n k' h hb
    have hc : 0 ≤ c ∧ c ≤ 255 := hb c (by simp)
    rw [Plain.dec] at h
    split at h
    · cases h
    · split at h
      · rename_i h5 h128
        obtain ⟨m, hn, hk, hl, hm⟩ := ih _ _ _ _ _ h (fun x hx => hb x (by simp [hx]))
        have hm0 := hm (by omega)
        obtain ⟨d, hd⟩ : ∃ d : Nat, c = (d : Int) := ⟨c.toNat, by omega⟩
        subst hd
        have e1 : (d % 128 + 128 * m) % 128 + 128 = d := by omega
        have e2 : (d % 128 + 128 * m) / 128 = m := by omega
        have henc : Plain.enc (d % 128 + 128 * m) = (d : Int) :: Plain.enc m := by rw [Plain.enc_step (by omega), e1, e2]
        refine ⟨d % 128 + 128 * m, ?_, ?_, ?_, fun _ => by omega⟩
        · rw [hn]
          have : (((d % 128 + 128 * m : Nat) : Int)) = (d : Int) % 128 + 128 * (m : Int) := by omega
          rw [this, Int.add_mul, Int.add_assoc, Int.mul_comm W 128, ← Int.mul_assoc, Int.mul_comm (m : Int) 128]
        · rw [hk, henc, List.length_cons]; omega
        · rw [henc]
          simp only [List.cons_append, List.length_cons, List.drop_succ_cons]
          rw [← hl]
      · split at h
        · cases h
        · rename_i h5 h128 hbad
          simp only [Option.some.injEq, Prod.mk.injEq] at h
          obtain ⟨rfl, rfl⟩ := h
          obtain ⟨d, hd⟩ : ∃ d : Nat, c = (d : Int) := ⟨c.toNat, by omega⟩
          subst hd
          have hd128 : d < 128 := by omega
          have e : (d : Int) % 128 = (d : Int) := by omega
          refine ⟨d, by rw [e], by rw [Plain.enc_small hd128]; rfl, by rw [Plain.enc_small hd128]; simp, fun hk => ?_⟩
          rw [not_or] at hbad
          rw [e] at hbad
          omega

theorem num_enc {n : Int} {m : Nat} (h : n = (m : Int)) (hm : n ≤ 1000000000) : Puts.num n = Plain.enc m := by
  rw [Plain.num_eq, h, Plain.clamp_size (by omega)]
  simp

theorem dec_bd : ∀ (l : List Int) (k : Nat) (N W n : Int) (k' : Nat), Plain.dec k N W l = some (n, k') → n ≤ 1000000000 := by
  intro l
  induction l with
  | nil => intro k N W n k' h; simp [Plain.dec] at h
  | cons c r ih =>
    intro k N W n k' h
    rw [Plain.dec] at h
    split at h
    · cases h
    · split at h
      · exact ih _ _ _ _ _ h
      · split at h
        · cases h
        · rename_i hbad
          simp only [Option.some.injEq, Prod.mk.injEq] at h
          rw [not_or] at hbad
          omega

/-- a number that is read stands there as it is put -/
theorem getNum_canon {xs : List Int} {a : Nat} {n p : Int} (hb : Byt xs) (h : Plain.getNum xs (a : Int) = (n, p, true)) : ∃ q : Nat, p = (q : Int) ∧ 0 ≤ n ∧ n ≤ 1000000000 ∧ a ≤ xs.length ∧ xs.drop a = Puts.num n ++ xs.drop q := by
  unfold Plain.getNum at h
  split at h
  · rename_i hc
    rw [show ((a : Int)).toNat = a from rfl] at h
    split at h
    · rename_i n' k hd
      simp only [Prod.mk.injEq, and_true] at h
      obtain ⟨rfl, rfl⟩ := h
      obtain ⟨m, hn, hk, hl, _⟩ := dec_canon _ _ _ _ _ _ hd (fun x hx => hb x (List.mem_of_mem_drop hx))
      have h9 := dec_bd _ _ _ _ _ _ hd
      have hn' : n' = (m : Int) := by omega
      refine ⟨a + k, by omega, by omega, h9, by omega, ?_⟩
      rw [num_enc hn' h9]
      have hk' : k = (Plain.enc m).length := by omega
      rw [← List.drop_drop, hk']
      exact hl
    · simp at h
  · simp at h

theorem getText_canon {xs : List Int} {a : Nat} {s : ByteArray} {p : Int} (hb : Byt xs) (h : Plain.getText xs (a : Int) = (s, p, true)) : ∃ q : Nat, p = (q : Int) ∧ s.size ≤ 1000000000 ∧ xs.drop a = Puts.tx s ++ xs.drop q := by
  unfold Plain.getText at h
  split at h
  · rename_i hc
    obtain ⟨n, q, ok, hg⟩ : ∃ n q ok, Plain.getNum xs (a : Int) = (n, q, ok) := ⟨_, _, _, rfl⟩
    rw [hg] at h hc
    simp only at h hc
    obtain ⟨rfl, hc2⟩ := hc
    simp only [Prod.mk.injEq, and_true] at h
    obtain ⟨rfl, rfl⟩ := h
    obtain ⟨q', rfl, hn0, hn9, _, hd⟩ := getNum_canon hb hg
    obtain ⟨m, rfl⟩ : ∃ m : Nat, n = (m : Int) := ⟨n.toNat, by omega⟩
    have hsz : (Plain.txt ((xs.drop ((q' : Int)).toNat).take ((m : Int)).toNat)).size = m := by
      rw [txt_sizev]
      simp
      omega
    have hsb : sb (Plain.txt ((xs.drop ((q' : Int)).toNat).take ((m : Int)).toNat)) = (xs.drop q').take m := by
      rw [sb_txtv (fun x hx => hb x (List.mem_of_mem_drop (List.mem_of_mem_take hx)))]
      rfl
    refine ⟨q' + m, by omega, by omega, ?_⟩
    unfold Puts.tx
    rw [hsz, hsb, hd, List.append_assoc, ← List.drop_drop, List.take_append_drop]
  · simp at h

theorem rd_canon {xs : List Int} (hb : Byt xs) : ∀ (n a : Nat) (l : List ByteArray) (p : Int), Plain.rd xs n (a : Int) = some (l, p) → ∃ q : Nat, p = (q : Int) ∧ l.length = n ∧ xs.drop a = Puts.txs l ++ xs.drop q := by
  intro n
  induction n with
  | zero =>
    intro a l p h
    simp [Plain.rd] at h
    obtain ⟨rfl, rfl⟩ := h
    exact ⟨a, rfl, rfl, rfl⟩
  | succ n ih =>
    intro a l p h
    rw [Plain.rd] at h
    split at h
    · rename_i hok
      obtain ⟨s, q, ok, hg⟩ : ∃ s q ok, Plain.getText xs (a : Int) = (s, q, ok) := ⟨_, _, _, rfl⟩
      rw [hg] at h hok
      simp only at h hok
      subst hok
      obtain ⟨q', rfl, _, hd⟩ := getText_canon hb hg
      rw [Option.map_eq_some_iff] at h
      obtain ⟨⟨l2, q2⟩, h1, h2⟩ := h
      simp only [Prod.mk.injEq] at h2
      obtain ⟨rfl, rfl⟩ := h2
      obtain ⟨q3, hq3, hl3, hd3⟩ := ih _ _ _ h1
      refine ⟨q3, hq3, by simp [hl3], ?_⟩
      rw [hd, hd3]
      simp [Puts.txs]
    · cases h

theorem getTexts_canon {xs : List Int} {a : Nat} {l : List ByteArray} {p : Int} (hb : Byt xs) (h : Plain.getTexts xs (a : Int) = (l, p, true)) : ∃ q : Nat, p = (q : Int) ∧ xs.drop a = Puts.num (l.length : Int) ++ Puts.txs l ++ xs.drop q := by
  unfold Plain.getTexts at h
  split at h
  · rename_i hc
    obtain ⟨n, q, ok, hg⟩ : ∃ n q ok, Plain.getNum xs (a : Int) = (n, q, ok) := ⟨_, _, _, rfl⟩
    rw [hg] at h hc
    simp only at h hc
    obtain ⟨rfl, hc2⟩ := hc
    obtain ⟨q', rfl, hn0, hn9, _, hd⟩ := getNum_canon hb hg
    obtain ⟨m, rfl⟩ : ∃ m : Nat, n = (m : Int) := ⟨n.toNat, by omega⟩
    split at h
    · rename_i l' q2 hr
      simp only [Prod.mk.injEq, and_true] at h
      obtain ⟨rfl, rfl⟩ := h
      obtain ⟨q3, hq3, hl3, hd3⟩ := rd_canon hb _ _ _ _ hr
      refine ⟨q3, hq3, ?_⟩
      have : l'.length = m := by rw [hl3]; rfl
      rw [hd, hd3, this, List.append_assoc]
    · simp at h
  · simp at h

theorem needsOf_names : ∀ l : List Nd, (∀ x ∈ l, x.ok = true) → needsOf (l.map name5) = some l := by
  intro l
  induction l with
  | nil => intro _; rfl
  | cons x r ih =>
    intro h
    simp only [List.map_cons, needsOf]
    rw [pname_name (h x (by simp)), ih (fun y hy => h y (by simp [hy]))]
    rfl

theorem names_needsOf : ∀ (ts : List ByteArray) (l : List Nd), needsOf ts = some l → l.map name5 = ts := by
  intro ts
  induction ts with
  | nil => intro l h; simp [needsOf] at h; subst h; rfl
  | cons t r ih =>
    intro l h
    simp only [needsOf] at h
    split at h
    · rename_i ht
      rw [Option.map_eq_some_iff] at h
      obtain ⟨l2, h1, rfl⟩ := h
      obtain ⟨x, g, hx⟩ : ∃ x g, pname t = (x, g) := ⟨_, _, rfl⟩
      rw [hx] at ht ⊢
      simp only at ht ⊢
      subst ht
      rw [List.map_cons, ih _ h1, (name_pname hx).2]
    · cases h

theorem rise_ok : ∀ l : List Nd, rise l = true → ∀ x ∈ l, x.ok = true := by
  intro l
  induction l with
  | nil => intro _ x hx; cases hx
  | cons n r ih =>
    intro h x hx
    cases r with
    | nil => simp at hx; subst hx; exact h
    | cons m r =>
      have h' : (n.ok && ltT n.path m.path && rise (m :: r)) = true := h
      simp only [Bool.and_eq_true] at h'
      rcases List.mem_cons.1 hx with rfl | hx
      · exact h'.1.1
      · exact ih h'.2 x hx

theorem entry_parts {n : Nd} {l : List Nd} (h : entry5 n l = true) : n.ok = true ∧ l.length ≤ 8 ∧ rise l = true ∧ self5 n l = false := by
  unfold entry5 at h
  simp only [Bool.and_eq_true, decide_eq_true_eq] at h
  exact ⟨h.1.1.2, h.1.2, h.2, by simpa using h.1.1.1⟩

/-- what is read of a text has that text -/
theorem put_get5 {s : ByteArray} {n : Nd} {l : List Nd} (h : get5 s = (n, l, true)) : entry5 n l = true ∧ put5 n l = s := by
  unfold get5 at h
  split at h
  · rename_i hc
    obtain ⟨nm, p, ok, ht⟩ : ∃ nm p ok, Plain.getText (sb s) 0 = (nm, p, ok) := ⟨_, _, _, rfl⟩
    rw [ht] at h hc
    simp only at h hc
    obtain ⟨ts, q, is, hts⟩ : ∃ ts q is, Plain.getTexts (sb s) p = (ts, q, is) := ⟨_, _, _, rfl⟩
    rw [hts] at h hc
    simp only at h hc
    obtain ⟨x, g, hx⟩ : ∃ x g, pname nm = (x, g) := ⟨_, _, rfl⟩
    rw [hx] at h hc
    simp only at h hc
    obtain ⟨rfl, rfl, rfl, hq⟩ := hc
    unfold get5t at h
    split at h
    · rename_i l' hn
      unfold get5e at h
      split at h
      · rename_i he
        simp only [Prod.mk.injEq, and_true] at h
        obtain ⟨rfl, rfl⟩ := h
        refine ⟨he, ?_⟩
        obtain ⟨q1, rfl, _, hd1⟩ := getText_canon (a := 0) (sb_byt s) ht
        obtain ⟨q2, hq2, hd2⟩ := getTexts_canon (sb_byt s) hts
        unfold put5
        rw [if_pos he, names_needsOf _ _ hn, (name_pname hx).2, needsOf_len _ _ hn]
        have h3 : (sb s).drop q2 = [] := List.drop_eq_nil_of_le (by rw [sb_len]; omega)
        rw [h3, List.append_nil] at hd2
        rw [List.drop_zero, hd2, ← List.append_assoc] at hd1
        rw [← hd1, txt_sbv]
      · simp [no5] at h
    · simp [no5] at h
  · simp [no5] at h

/-- an entry comes back of its text -/
theorem get_put5 {n : Nd} {l : List Nd} (h : entry5 n l = true) (hz : ∀ x, x = n ∨ x ∈ l → (name5 x).size ≤ 1000000000) : get5 (put5 n l) = (n, l, true) := by
  obtain ⟨hn, h8, hr, _⟩ := entry_parts h
  have hb : Byt (Puts.tx (name5 n) ++ Puts.num (l.length : Int) ++ Puts.txs (l.map name5)) := ((Puts.tx_byt _).app (Puts.num_byt _)).app (txs_byt5 _)
  have hs : sb (put5 n l) = Puts.tx (name5 n) ++ Puts.num (l.length : Int) ++ Puts.txs (l.map name5) := by unfold put5; rw [if_pos h, sb_txtv hb]
  have g1 := Plain.getText_back [] (Puts.num (l.length : Int) ++ Puts.txs (l.map name5)) (name5 n) (hz n (.inl rfl))
  rw [List.nil_append, ← List.append_assoc, ← hs] at g1
  simp only [List.length_nil, Int.natCast_zero, Int.zero_add] at g1
  have g2 := Plain.getTexts_back (Puts.tx (name5 n)) [] (l.map name5) (by simp; omega) (fun t ht => by
    obtain ⟨x, hx, rfl⟩ := List.mem_map.1 ht
    exact hz x (.inr hx))
  rw [List.append_nil, List.length_map, ← hs] at g2
  unfold get5
  rw [g1]
  simp only
  rw [g2]
  simp only
  rw [pname_name hn]
  simp only
  rw [if_pos ⟨trivial, trivial, trivial, by rw [sb_len]⟩]
  unfold get5t
  rw [needsOf_names l (rise_ok l hr)]
  simp only [get5e]
  rw [if_pos h]

end Go.Proofs.YtbopliahafkecaaDoor.Ent
