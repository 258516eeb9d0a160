/- Texts in one: ImpJ, ImpK, ImpM, ImpN, VerQ, VerR, EntP0. -/
import Derived.Test.YtbopliahafkecaaGreatDoorPk16
import Derived.Test.YtbopliahafkecaaGreatDoorPk12
import Derived.Test.YtbopliahafkecaaGreatDoorPk13
import Derived.Lib.Strings
import Derived.Lib.Bytealg
import Derived.Laws.Rows
/- Chapter 3, the landed code: what the library cuts off a text: a v ahead, and what stands behind the first sign -. -/
namespace Go.Proofs.YtbopliahafkecaaGreatDoor.Ver
open Go.RowKit Go.Proofs.YtbopliahafkecaaGreatDoor.Mem Go.Proofs.YtbopliahafkecaaGreatDoor.Laws Go.Proofs.YtbopliahafkecaaGreatDoor.Bytes Go.Proofs.YtbopliahafkecaaGreatDoor.Sha
set_option linter.unusedVariables false
set_option linter.unusedSimpArgs false

/-- the place of the first sign -, or -1 -/
def dash (t : ByteArray) : Int := match (sb t).findIdx? (fun c => c == 45) with
  | some i => (i : Int)
  | none => -1
theorem indexByte_dash : ∀ l : List UInt8, Lib.indexByte l 45 = match (l.map fun b => (b.toNat : Int)).findIdx? (fun c => c == 45) with
    | some i => (i : Int)
    | none => -1 := by
  intro l
  induction l with
  | nil => rfl
  | cons b r ih =>
    by_cases h : b = 45
    · subst h; simp [Lib.indexByte, List.findIdx?_cons]
    · have h2 : ((b.toNat : Int) == 45) = false := by
        rw [beq_eq_false_iff_ne]
        intro h3
        apply h
        apply UInt8.toNat_inj.1
        have : (45 : UInt8).toNat = 45 := rfl
        omega
      have h4 : (b == 45) = false := by simpa using h
      rw [List.map_cons, List.findIdx?_cons, h2]
      unfold Lib.indexByte
      simp only [h4, Bool.false_eq_true, if_false, ih]
      cases (r.map fun b => (b.toNat : Int)).findIdx? (fun c => c == 45) with
      | none => simp
      | some i => simp

set_option maxRecDepth 1000000 in
set_option maxHeartbeats 1000000 in
theorem ib_impl (w : World) (s : ByteArray) : Calls Tryz.prog 111 #[.string s, .int .u8 45] w fun e w' => e = .returned (.int .i64 (dash s)) ∧ w' = w := by
  have HD : Hid (Lib.indexByte s.data.toList (45 : Int).toNat.toUInt8 = dash s) := indexByte_dash s.data.toList
  go_enter Tryz.func111, Tryz.ntmps111
  go_wp2
  rw [run_callFunc_extern Tryz.func132 (by kernel_rfl) (by kernel_rfl) (by kernel_rfl) (e := Extern.BytealgIndexByte.indexByte) (by kernel_rfl), Lib.run_indexByteString, HD.out]
  simp only [Result.andThen]
  rw [Oper.upon_value]
  go_wp2
  go_ret
  exact ⟨rfl, rfl⟩

set_option maxRecDepth 1000000 in
set_option maxHeartbeats 2000000 in
theorem ix_impl (w : World) (s : ByteArray) : Calls Tryz.prog 114 #[.string s, .string ⟨#[45]⟩] w fun e w' => e = .returned (.int .i64 (dash s)) ∧ w' = w := by
  have q := ib_impl w s
  by_cases h : s.toList = [45]
  · have h1 : ([45] == s.toList) = true := by simp [h]
    have HD : Hid (dash s = 0) := by
      show _ = _
      unfold dash
      rw [show sb s = [45] by unfold sb; rw [← ByteArray.toList_eq, h]; rfl]
      rfl
    clear h
    go_enter Tryz.func114, Tryz.ntmps114
    go_wp2_with (go_at_call 111; refine q.mono ?_; rintro e w' ⟨rfl, rfl⟩)
    go_ret
    exact ⟨by rw [HD.out]; rfl, rfl⟩
  · have h1 : ([45] == s.toList) = false := by
      rw [beq_eq_false_iff_ne]
      exact fun e => h e.symm
    clear h
    obtain ⟨d, hd⟩ : ∃ d, dash s = d := ⟨_, rfl⟩
    rw [hd] at q ⊢
    clear hd
    go_enter Tryz.func114, Tryz.ntmps114
    go_wp2_with (go_at_call 111; refine q.mono ?_; rintro e w' ⟨rfl, rfl⟩)
    go_ret
    exact ⟨rfl, rfl⟩

theorem dash_some {s : ByteArray} {i : Nat} (h : (sb s).findIdx? (fun c => c == 45) = some i) : i < s.size := by
  have := (List.findIdx?_eq_some_iff_getElem.1 h).1
  rw [sb_len] at this
  exact this

set_option maxRecDepth 1000000 in
set_option maxHeartbeats 1000000 in
theorem cutl_impl (w : World) (s : ByteArray) (hs : s.size ≤ 1000000000000) : Calls Tryz.prog 91 #[.string s, .string ⟨#[45]⟩] w fun e w' => e = .returned (.tuple #[.string (cut s).1, .string (cut s).2, .bool (decide (0 ≤ dash s))]) ∧ Below w.heap.size w w' := by
  have q := ix_impl w s
  cases hd : (sb s).findIdx? (fun c => c == 45) with
  | none =>
    have e1 : dash s = -1 := by unfold dash; rw [hd]
    have HC : Hid ((cut s).1 = s ∧ (cut s).2 = ⟨#[]⟩) := by show _ ∧ _; unfold cut; rw [hd]; exact ⟨rfl, rfl⟩
    rw [e1] at q
    have HE : Hid (decide (0 ≤ dash s) = false) := by show _ = _; rw [e1]; rfl
    clear e1 hd
    go_enter Tryz.func91, Tryz.ntmps91
    go_wp2_with (go_at_call 114; refine q.mono ?_; rintro e w' ⟨rfl, rfl⟩)
    go_ret3
    exact ⟨by rw [HC.out.1, HC.out.2, HE.out]; rfl, Below.refl _ _⟩
  | some i =>
    have e1 : dash s = (i : Int) := by unfold dash; rw [hd]
    have hi := dash_some hd
    have HC : Hid ((cut s).1 = s.extract 0 i ∧ (cut s).2 = s.extract (i + 1) s.size) := by show _ ∧ _; unfold cut; rw [hd]; exact ⟨rfl, rfl⟩
    rw [e1] at q
    have HE : Hid (decide (0 ≤ dash s) = true) := by show _ = _; rw [e1]; simp
    clear e1 hd
    have h0 : (0 : Int) ≤ (i : Int) := by omega
    have h1 : i ≤ s.size := by omega
    have h2 : i + 1 ≤ s.size := by omega
    go_enter Tryz.func91, Tryz.ntmps91
    go_wp2_with (go_at_call 114; refine q.mono ?_; rintro e w' ⟨rfl, rfl⟩)
    go_quiet (fail)
    go_wp2
    go_ret3
    exact ⟨by rw [HC.out.1, HC.out.2, HE.out]; rfl, ⟨rfl, rfl, rfl, Nat.le_refl _, fun _ _ => rfl⟩⟩

set_option maxRecDepth 1000000 in
set_option maxHeartbeats 1000000 in
theorem cut_impl (w : World) (s : ByteArray) (hs : s.size ≤ 1000000000000) : Calls Tryz.prog 66 #[.string s, .string ⟨#[45]⟩] w fun e w' => e = .returned (.tuple #[.string (cut s).1, .string (cut s).2, .bool (decide (0 ≤ dash s))]) ∧ Below w.heap.size w w' := by
  have q := cutl_impl w s hs
  obtain ⟨x, hx⟩ : ∃ x, (cut s).1 = x := ⟨_, rfl⟩
  obtain ⟨y, hy⟩ : ∃ x, (cut s).2 = x := ⟨_, rfl⟩
  obtain ⟨z, hz⟩ : ∃ x, decide (0 ≤ dash s) = x := ⟨_, rfl⟩
  rw [hx, hy, hz] at q ⊢
  clear hx hy hz
  go_enter Tryz.func66, Tryz.ntmps66
  go_wp2_with (go_at_call 91; refine q.mono ?_; rintro e w' ⟨rfl, b1⟩)
  go_ret3
  exact ⟨rfl, b1⟩

/-- does the text begin with a v? -/
def vAt (s : ByteArray) : Bool := decide ((sb s).head? = some 118)
def vOff (s : ByteArray) : ByteArray := if vAt s = true then s.extract 1 s.size else s

theorem vAt_nil {s : ByteArray} (h : s.size = 0) : vAt s = false := by
  have := sb_len s
  cases hb : sb s with
  | nil => unfold vAt; rw [hb]; rfl
  | cons x y => rw [hb] at this; simp at this; omega
theorem vAt_pos {s : ByteArray} (h : 0 < s.size) : ((s.extract 0 1).toList == [118]) = vAt s := by
  have hg := sb_get s 0 h
  rw [ByteArray.toList_eq, ByteArray.data_extract, Array.toList_extract]
  unfold vAt
  have hl : 0 < s.data.toList.length := by simpa using h
  cases hd : s.data.toList with
  | nil => rw [hd] at hl; simp at hl
  | cons x y =>
    have hs : sb s = (x.toNat : Int) :: y.map fun b => (b.toNat : Int) := by unfold sb; rw [hd]; rfl
    rw [hs]
    simp only [List.head?_cons, Option.some.injEq]
    rw [Bool.eq_iff_iff]
    simp
    constructor
    · rintro rfl; rfl
    · intro h3
      apply UInt8.toNat_inj.1
      have : (118 : UInt8).toNat = 118 := rfl
      omega

set_option maxRecDepth 1000000 in
set_option maxHeartbeats 1000000 in
theorem hasp_impl (w : World) (s : ByteArray) (hs : s.size ≤ 1000000000000) : Calls Tryz.prog 113 #[.string s, .string ⟨#[118]⟩] w fun e w' => e = .returned (.bool (vAt s)) ∧ w' = w := by
  by_cases h0 : s.size = 0
  · have HN : Hid (vAt s = false) := vAt_nil h0
    have h1 : ¬ 1 ≤ s.size := by omega
    have h2 : s.size < 1 := by omega
    clear h0
    go_enter Tryz.func113, Tryz.ntmps113
    go_wp2
    go_ret
    exact ⟨by rw [HN.out]; rfl, rfl⟩
  · have h1 : 1 ≤ s.size := by omega
    have hv := vAt_pos (s := s) (by omega)
    obtain ⟨x, hx⟩ : ∃ x, vAt s = x := ⟨_, rfl⟩
    rw [hx] at hv ⊢
    clear hx h0
    go_enter Tryz.func113, Tryz.ntmps113
    go_wp2
    go_ret
    exact ⟨by simp [hv], rfl⟩

set_option maxRecDepth 1000000 in
set_option maxHeartbeats 1000000 in
theorem cutp_impl (w : World) (s : ByteArray) (hs : s.size ≤ 1000000000000) : Calls Tryz.prog 65 #[.string s, .string ⟨#[118]⟩] w fun e w' => e = .returned (.tuple #[.string (vOff s), .bool (vAt s)]) ∧ w' = w := by
  have q := hasp_impl w s hs
  cases hx : vAt s with
  | false =>
    have HV : Hid (vOff s = s) := by show _ = _; unfold vOff; rw [hx]; rfl
    rw [hx] at q
    clear hx
    go_enter Tryz.func65, Tryz.ntmps65
    go_wp2_with (first | (go_at_call 113; refine q.mono ?_; rintro e w' ⟨rfl, rfl⟩) | go_in)
    go_ret2
    exact ⟨by rw [HV.out]; rfl, rfl⟩
  | true =>
    have h1 : 1 ≤ s.size := by
      by_cases h0 : s.size = 0
      · rw [vAt_nil h0] at hx; cases hx
      · omega
    have HV : Hid (vOff s = s.extract 1 s.size) := by show _ = _; unfold vOff; rw [hx]; rfl
    rw [hx] at q
    clear hx
    go_enter Tryz.func65, Tryz.ntmps65
    go_wp2_with (first | (go_at_call 113; refine q.mono ?_; rintro e w' ⟨rfl, rfl⟩) | go_in)
    go_ret2
    exact ⟨by rw [HV.out]; rfl, rfl⟩

end Go.Proofs.YtbopliahafkecaaGreatDoor.Ver

/- Chapter 3, the landed code: a number up to a greatest one. -/
namespace Go.Proofs.YtbopliahafkecaaGreatDoor.Ver
open Go.RowKit Go.Proofs.YtbopliahafkecaaGreatDoor.Mem Go.Proofs.YtbopliahafkecaaGreatDoor.Laws Go.Proofs.YtbopliahafkecaaGreatDoor.Bytes Go.Proofs.YtbopliahafkecaaGreatDoor.Sha
set_option linter.unusedVariables false
set_option linter.unusedSimpArgs false

set_option maxRecDepth 1000000 in
set_option maxHeartbeats 1000000 in
theorem upto_impl (w : World) (s : ByteArray) (hs : s.size ≤ 1000000000000) :
    Calls Tryz.prog 67 #[.string s, .int .i64 1000000] w fun e w' => e = .returned (.tuple #[.int .i64 (upTo (sb s) 1000000).1, .bool (upTo (sb s) 1000000).2]) ∧ Below w.heap.size w w' := by
  have q := number_impl w s hs
  obtain ⟨x, hx⟩ : ∃ x, isNum (sb s) = x := ⟨_, rfl⟩
  rw [hx] at q
  have HX : Hid (isNum (sb s) = x) := hx
  clear hx
  cases x
  · have HN : Hid (upTo (sb s) 1000000 = (0, false)) := by show _ = _; unfold upTo; rw [HX.out]; simp
    go_enter Tryz.func67, Tryz.ntmps67
    go_wp2_with (go_at_call 92; refine q.mono ?_; rintro e w1 ⟨rfl, b1⟩)
    go_ret2
    exact ⟨by rw [HN.out]; rfl, b1⟩
  · have HA : Hid ((sb s).all isd = true) := by
      show _ = _
      have h := HX.out
      unfold isNum at h
      rw [Bool.and_eq_true] at h
      exact h.1
    go_enter Tryz.func67, Tryz.ntmps67
    go_wp2_with (go_at_call 92; refine q.mono ?_; rintro e w1 ⟨rfl, b1⟩)
    have s1 := b1.size
    have HB : Hid (Below w.heap.size w w1) := b1
    clear q b1
    go_loopw [6] (fun n wr => ∃ (k : Nat) (m : Int), k ≤ s.size ∧ n = .int .i64 m ∧ Hid (m = numv ((sb s).take k)) ∧ 0 ≤ m ∧ m ≤ 1000000 ∧ wr = w1.iter s k) (fun _ wr => s.size - wr.iterPos w1.heap.size)
    case atStart => exact ⟨0, 0, Nat.zero_le _, rfl, rfl, by omega, by omega, rfl⟩
    case round =>
      obtain ⟨k, m, hk, rfl, HM, m0, m1, rfl⟩ := hrel
      by_cases hp : k < s.size
      · have hg := sb_get s k hp
        have hd : isd (s[k].toNat : Int) = true := List.all_eq_true.1 HA.out _ (List.mem_of_getElem? hg)
        have hc : 48 ≤ (s[k].toNat : Int) ∧ (s[k].toNat : Int) ≤ 57 := by simpa [isd] using hd
        have hnx : ∀ ty, (Instr.next (.pointer (some ⟨w1.heap.size, 0, none⟩)) true ty).run Tryz.prog (w1.iter s k) = _ := fun ty => run_next_ascii w1 s k ty hp (by omega)
        have HN : Hid (m * 10 + ((s[k].toNat : Int) - 48) = numv ((sb s).take (k + 1))) := by
          show _ = _
          rw [take_snoc hg, numv_snoc, HM.out]
        have HT := numv_take HA.out (k + 1)
        rw [← HN.out] at HT
        have HT' : Hid (m * 10 + ((s[k].toNat : Int) - 48) ≤ numv (sb s)) := HT
        obtain ⟨c, hcc⟩ : ∃ c : Int, c = (s[k].toNat : Int) := ⟨_, rfl⟩
        have hBk : Below w.heap.size w (w1.iter s (k + 1)) := HB.out.alloc s1 _
        rw [← hcc] at hnx hc HN HT'
        clear hg hd HT hcc
        by_cases hgt : 1000000 < m * 10 + (c - 48)
        · have HE : Hid (upTo (sb s) 1000000 = (0, false)) := by
            show _ = _
            unfold upTo
            rw [if_neg (fun h => by have := h.2; have := HT'.out; omega)]
          go_wp2
          go_ret2
          exact ⟨by rw [HE.out]; rfl, hBk⟩
        · go_wp2
          go_roundw
          case rel => exact ⟨k + 1, m * 10 + (c - 48), by omega, by go_num, HN, by omega, by omega, rfl⟩
          case measure => simp; omega
      · have hnx : ∀ ty, (Instr.next (.pointer (some ⟨w1.heap.size, 0, none⟩)) true ty).run Tryz.prog (w1.iter s k) = _ := fun ty => run_next_end w1 s k ty hp
        have HE : Hid (upTo (sb s) 1000000 = (m, true)) := by
          show _ = _
          have h := HM.out
          rw [List.take_of_length_le (by rw [sb_len]; omega)] at h
          unfold upTo
          rw [if_pos ⟨HX.out, by omega⟩, h]
        have hBk : Below w.heap.size w (w1.iter s k) := HB.out.alloc s1 _
        go_wp2
        go_ret2
        exact ⟨by rw [HE.out]; rfl, hBk⟩

end Go.Proofs.YtbopliahafkecaaGreatDoor.Ver

/- Chapter 3, the landed code: a version that is read of a text. -/
namespace Go.Proofs.YtbopliahafkecaaGreatDoor.Ver
open Go.RowKit Go.Proofs.YtbopliahafkecaaGreatDoor.Mem Go.Proofs.YtbopliahafkecaaGreatDoor.Laws Go.Proofs.YtbopliahafkecaaGreatDoor.Bytes Go.Proofs.YtbopliahafkecaaGreatDoor.Sha
set_option linter.unusedVariables false
set_option linter.unusedSimpArgs false

/-- three numbers and what stands behind them, if they are a right version's -/
def read3 (T : List ByteArray) (pr : ByteArray) : Option (Int × Int × Int × ByteArray) := match T with
  | [x, y, z] => if (upTo (sb x) 1000000).2 = true ∧ (upTo (sb y) 1000000).2 = true ∧ (upTo (sb z) 1000000).2 = true ∧ okV (upTo (sb x) 1000000).1 (upTo (sb y) 1000000).1 (upTo (sb z) 1000000).1 pr = true
      then some ((upTo (sb x) 1000000).1, (upTo (sb y) 1000000).1, (upTo (sb z) 1000000).1, pr) else none
  | _ => none
def readI (s : ByteArray) : Option (Int × Int × Int × ByteArray) :=
  if vAt s = true ∧ ¬ (0 ≤ dash (vOff s) ∧ (cut (vOff s)).2.size = 0) then read3 (splitT 46 (cut (vOff s)).1) (cut (vOff s)).2 else none
def ifaceQ : Option (Int × Int × Int × ByteArray) → Value
  | none => .nilIface
  | some q => .iface 45 (verQ q)

theorem read3_no {T : List ByteArray} (pr : ByteArray) (h : T.length ≠ 3) : read3 T pr = none := by
  match T, h with
  | [], _ => rfl
  | [_], _ => rfl
  | [_, _], _ => rfl
  | [_, _, _], h => exact absurd rfl h
  | _ :: _ :: _ :: _ :: _, _ => rfl
theorem read3_three (x y z pr : ByteArray) : read3 [x, y, z] pr = if (upTo (sb x) 1000000).2 = true ∧ (upTo (sb y) 1000000).2 = true ∧ (upTo (sb z) 1000000).2 = true ∧ okV (upTo (sb x) 1000000).1 (upTo (sb y) 1000000).1 (upTo (sb z) 1000000).1 pr = true
      then some ((upTo (sb x) 1000000).1, (upTo (sb y) 1000000).1, (upTo (sb z) 1000000).1, pr) else none := rfl
theorem three {T : List ByteArray} (h : T.length = 3) : ∃ x y z, T = [x, y, z] := by
  match T, h with
  | [x, y, z], _ => exact ⟨x, y, z, rfl⟩

/-- three numbers as cells -/
def r3 (x y z : Int) : Array Value := #[.int .i64 x, .int .i64 y, .int .i64 z]
def R3 (w : World) (g : Nat) (x y z : Int) : Prop := w.heap[g]? = some (.cells (r3 x y z) 139 (0, 0))
theorem R3.lt {w : World} {g : Nat} {x y z : Int} (h : R3 w g x y z) : g < w.heap.size := (Array.getElem?_eq_some_iff.1 h).1
theorem R3.same {w w' : World} {g : Nat} {x y z : Int} (h : R3 w g x y z) (hb : Below w.heap.size w w') : R3 w' g x y z := (hb.block g h.lt).trans h
theorem R3.cells {w : World} {g : Nat} {x y z : Int} (h : R3 w g x y z) : w.cell? ⟨g, 0, none⟩ = some (.int .i64 x) ∧ w.cell? ⟨g, 1, none⟩ = some (.int .i64 y) ∧ w.cell? ⟨g, 2, none⟩ = some (.int .i64 z) :=
  ⟨(cell_of_row w g 0 _ _ _ h).trans rfl, (cell_of_row w g 1 _ _ _ h).trans rfl, (cell_of_row w g 2 _ _ _ h).trans rfl⟩
theorem R3.frozen {w : World} {g : Nat} {x y z : Int} (h : R3 w g x y z) (i : Nat) : w.frozen? ⟨g, i, none⟩ = false := by
  have h' : w.heap[g]? = some (.cells (r3 x y z) 139 (0, 0)) := h
  simp [World.frozen?, h']
theorem R3.set {w : World} {g : Nat} {x y z : Int} (h : R3 w g x y z) (i : Nat) (v : Value) : (w.setCell ⟨g, i, none⟩ v).heap[g]? = some (.cells ((r3 x y z).setIfInBounds i v) 139 (0, 0)) := by
  have h' : w.heap[g]? = some (.cells (r3 x y z) 139 (0, 0)) := h
  simp [World.setCell, Array.getElem?_modify, h']

theorem R3.at {w : World} {g : Nat} {x y z : Int} (h : R3 w g x y z) {k : Nat} (hk : k < 3) : ∃ v, w.cell? ⟨g, k, none⟩ = some (.int .i64 v) := by
  obtain ⟨c0, c1, c2⟩ := h.cells
  match k, hk with
  | 0, _ => exact ⟨_, c0⟩
  | 1, _ => exact ⟨_, c1⟩
  | 2, _ => exact ⟨_, c2⟩
theorem R3.step {w : World} {g : Nat} {n1 n2 n3 n : Int} {k : Nat} (h : R3 w g (if 0 < k then n1 else 0) (if 1 < k then n2 else 0) (if 2 < k then n3 else 0)) (hk : k < 3) (hn : [n1, n2, n3][k]? = some n) :
    R3 (w.setCell ⟨g, k, none⟩ (.int .i64 n)) g (if 0 < k + 1 then n1 else 0) (if 1 < k + 1 then n2 else 0) (if 2 < k + 1 then n3 else 0) := by
  have hs := R3.set h k (.int .i64 n)
  match k, hk with
  | 0, _ => simp at hn; subst hn; exact hs
  | 1, _ => simp at hn; subst hn; exact hs
  | 2, _ => simp at hn; subst hn; exact hs

set_option maxRecDepth 1000000 in
set_option maxHeartbeats 4000000 in
theorem readv_impl (w : World) (s : ByteArray) (hs : s.size ≤ 1048576) :
    Calls Tryz.prog 117 #[.string s] w fun e w' => e = .returned (ifaceQ (readI s)) ∧ Below w.heap.size w w' := by
  have hrz : (vOff s).size ≤ s.size := by
    unfold vOff
    split
    · simp
    · exact Nat.le_refl _
  have hcz : (cut (vOff s)).1.size ≤ (vOff s).size ∧ (cut (vOff s)).2.size ≤ (vOff s).size := by
    unfold cut
    split
    · simp; omega
    · exact ⟨Nat.le_refl _, Nat.zero_le _⟩
  have HI : Hid (readI s = if vAt s = true ∧ ¬ (0 ≤ dash (vOff s) ∧ (cut (vOff s)).2.size = 0) then read3 (splitT 46 (cut (vOff s)).1) (cut (vOff s)).2 else none) := rfl
  have q1 := cutp_impl w s (by omega)
  have q2 := cut_impl w (vOff s) (by omega)
  obtain ⟨va, hva⟩ : ∃ x, vAt s = x := ⟨_, rfl⟩
  obtain ⟨rest, hrest⟩ : ∃ x, vOff s = x := ⟨_, rfl⟩
  rw [hva, hrest] at q1
  rw [hrest] at q2 hcz hrz
  rw [hva, hrest] at HI
  clear hva hrest
  obtain ⟨da, hda⟩ : ∃ x, decide (0 ≤ dash rest) = x := ⟨_, rfl⟩
  obtain ⟨fr, hfr⟩ : ∃ x, (cut rest).1 = x := ⟨_, rfl⟩
  obtain ⟨pr, hpr⟩ : ∃ x, (cut rest).2 = x := ⟨_, rfl⟩
  rw [hda, hfr, hpr] at q2
  rw [hfr, hpr] at HI hcz
  have HI2 : Hid (readI s = if va = true ∧ ¬ (da = true ∧ pr.size = 0) then read3 (splitT 46 fr) pr else none) := by
    show _ = _
    rw [HI.out, ← hda]
    simp
  clear hda hfr hpr HI
  have q3 := fun W => parts_impl W fr 46 (by omega) (by omega) (by omega)
  have hTs := splitT_size 46 fr
  have hTl := splitT_len 46 fr
  have hT0 : 0 < (splitT 46 fr).length := by
    unfold splitT
    rw [List.length_map]
    exact splitL_pos 46 (sb fr) []
  obtain ⟨T, hT⟩ : ∃ T, T = splitT 46 fr := ⟨_, rfl⟩
  rw [← hT] at q3 hTs hTl hT0 HI2
  clear hT
  obtain ⟨pe, hpe⟩ : ∃ x, pr.toList.isEmpty = x := ⟨_, rfl⟩
  have HP : Hid (decide (pr.size = 0) = pe) := by show _ = _; rw [← hpe, toList_empty]
  have hprz : pr.size ≤ 1048576 := by omega
  have hfrz : fr.size ≤ 1048576 := by omega
  have HTs : Hid (∀ t ∈ T, t.size ≤ fr.size) := hTs
  clear hTs hcz
  cases va
  · have HN : Hid (readI s = none) := by show _ = _; rw [HI2.out]; simp
    go_enter Tryz.func117, Tryz.ntmps117
    go_wp2_with fail
    refine q1.mono ?_
    rintro e w0 ⟨rfl, rfl⟩
    go_wp2_with fail
    refine q2.mono ?_
    rintro e w2 ⟨rfl, b2⟩
    go_wp2_with fail
    refine (q3 w2).mono ?_
    rintro e w3 ⟨v3, rfl, o3, b3⟩
    have hb3 : Below w0.heap.size w0 w3 := b2.trans (b3.mono b2.size)
    obtain ⟨ao3, cap3, hv3⟩ := o3.len
    subst hv3
    rw [ss_len]
    clear o3
    go_wp2
    go_ret
    exact ⟨by rw [HN.out]; rfl, hb3⟩
  · cases da
    · have HI3 : Hid (readI s = read3 T pr) := by show _ = _; rw [HI2.out]; simp
      by_cases h3 : T.length = 3
      · obtain ⟨x, y, z, rfl⟩ := three h3
        have hx := HTs.out x (by simp)
        have hy := HTs.out y (by simp)
        have hz := HTs.out z (by simp)
        go_enter Tryz.func117, Tryz.ntmps117
        go_wp2_with fail
        refine q1.mono ?_
        rintro e w0 ⟨rfl, rfl⟩
        go_wp2_with fail
        refine q2.mono ?_
        rintro e w2 ⟨rfl, b2⟩
        go_wp2_with fail
        refine (q3 w2).mono ?_
        rintro e w3 ⟨v3, rfl, o3, b3⟩
        have hb3 : Below w0.heap.size w0 w3 := b2.trans (b3.mono b2.size)
        obtain ⟨g, cap, rfl, hg1, hg2, hcap, hc⟩ := ownForm o3 (by simp [ss])
        have hl3 : (ss [x, y, z]).length = 3 := rfl
        rw [hl3] at hcap hc
        rw [hl3]
        obtain ⟨n1, o1, e1⟩ : ∃ a b, upTo (sb x) 1000000 = (a, b) := ⟨_, _, rfl⟩
        obtain ⟨n2, o2, e2⟩ : ∃ a b, upTo (sb y) 1000000 = (a, b) := ⟨_, _, rfl⟩
        obtain ⟨n3, o3', e3⟩ : ∃ a b, upTo (sb z) 1000000 = (a, b) := ⟨_, _, rfl⟩
        have HI4 : Hid (readI s = if o1 = true ∧ o2 = true ∧ o3' = true ∧ okV n1 n2 n3 pr = true then some (n1, n2, n3, pr) else none) := by
          show _ = _
          rw [HI3.out]
          rw [read3_three]
          rw [e1, e2, e3]
        have HQ : Hid (∀ (k : Nat) (t : ByteArray), [x, y, z][k]? = some t → ∃ n o, upTo (sb t) 1000000 = (n, o) ∧ [n1, n2, n3][k]? = some n ∧ [o1, o2, o3'][k]? = some o ∧ t.size ≤ 1048576) := by
          intro k t ht
          match k, ht with
          | 0, ht => simp at ht; subst ht; exact ⟨n1, o1, e1, rfl, rfl, by omega⟩
          | 1, ht => simp at ht; subst ht; exact ⟨n2, o2, e2, rfl, rfl, by omega⟩
          | 2, ht => simp at ht; subst ht; exact ⟨n3, o3', e3, rfl, rfl, by omega⟩
          | k + 3, ht => simp at ht
        have HC : Hid (∀ j, j < 3 → w3.cell? ⟨g, j, none⟩ = (ss [x, y, z])[j]?) := hc
        have HB3 : Hid (Below w0.heap.size w0 w3) := hb3
        have hs3 := hb3.size
        have qk : ∀ W, _ := fun W => ok_impl W n1 n2 n3 pr (by omega)
        unfold ver at qk
        obtain ⟨G, hG⟩ : ∃ G, G = w3.heap.size := ⟨_, rfl⟩
        have hGr : R3 (w3.alloc (.cells #[.int .i64 0, .int .i64 0, .int .i64 0] 139)) w3.heap.size 0 0 0 := heap_alloc_new w3 _
        have hGb : Below w3.heap.size w3 (w3.alloc (.cells #[.int .i64 0, .int .i64 0, .int .i64 0] 139)) := (Below.refl _ _).alloc (Nat.le_refl _) _
        clear e1 e2 e3 hc o3 hb3 b2 b3 hl3 q1 q2 q3 hx hy hz
        go_wp2
        go_loopw [44] (fun i wr => ∃ k : Nat, k ≤ 3 ∧ i = .int .i64 (k : Int) ∧ Hid ((0 < k → o1 = true) ∧ (1 < k → o2 = true) ∧ (2 < k → o3' = true)) ∧ R3 wr w3.heap.size (if 0 < k then n1 else 0) (if 1 < k then n2 else 0) (if 2 < k then n3 else 0) ∧ Below w3.heap.size w3 wr) (fun i _ => 3 - (intOf i).toNat)
        case atStart => exact ⟨0, by omega, rfl, ⟨fun h => absurd h (by omega), fun h => absurd h (by omega), fun h => absurd h (by omega)⟩, hGr, hGb⟩
        case round =>
          obtain ⟨k, hk, rfl, HA, hR, hb⟩ := hrel
          have hsz := hb.size
          have hB : Below w0.heap.size w0 wr := HB3.out.trans (hb.mono hs3)
          clear hGr hGb
          by_cases hlt : k < 3
          · obtain ⟨t, ht⟩ : ∃ t, [x, y, z][k]? = some t := ⟨[x, y, z][k]'(by simpa using hlt), List.getElem?_eq_getElem (by simpa using hlt)⟩
            obtain ⟨n, o, hu, hn, ho, htz⟩ := HQ.out k t ht
            have hcell : wr.cell? ⟨g, k, none⟩ = some (.string t) := by rw [hb.cell (p := ⟨g, k, none⟩) hg2, HC.out k hlt, ss_get, ht]; rfl
            have q := upto_impl wr t (by omega)
            rw [hu] at q
            simp only at q
            have HN1 : Hid ([n1, n2, n3][k]? = some n) := hn
            have HR : Hid (R3 wr w3.heap.size (if 0 < k then n1 else 0) (if 1 < k then n2 else 0) (if 2 < k then n3 else 0)) := hR
            have HOk : Hid ([o1, o2, o3'][k]? = some o) := ho
            clear hu hn ho hR ht
            cases o
            · have HN : Hid (readI s = none) := by
                show _ = _
                rw [HI4.out, if_neg]
                rintro ⟨h1, h2, h3, _⟩
                have := HOk.out
                subst h1 h2 h3
                match k, hlt with
                | 0, _ => simp at this
                | 1, _ => simp at this
                | 2, _ => simp at this
              go_wp2_with (go_at_call 67; refine q.mono ?_; rintro e w5 ⟨rfl, b5⟩)
              go_ret
              exact ⟨by rw [HN.out]; rfl, hB.trans (b5.mono hB.size)⟩
            · go_wp2_with fail
              refine q.mono ?_
              rintro e w5 ⟨rfl, b5⟩
              have r5 := R3.same HR.out b5
              obtain ⟨old, hold⟩ := R3.at r5 hlt
              have hfz := R3.frozen r5 k
              have HR5 : Hid (R3 w5 w3.heap.size (if 0 < k then n1 else 0) (if 1 < k then n2 else 0) (if 2 < k then n3 else 0)) := r5
              have HB5 : Hid (Below w3.heap.size w3 w5) := hb.trans (b5.mono hsz)
              clear r5 q b5 HR
              go_wp2
              go_roundw
              case rel =>
                refine ⟨k + 1, by omega, by go_num, ?_, R3.step HR5.out hlt HN1.out, HB5.out.setCell (p := ⟨w3.heap.size, k, none⟩) (Nat.le_refl _) _⟩
                have := HOk.out
                obtain ⟨h1, h2, h3⟩ := HA.out
                match k, hlt with
                | 0, _ => simp at this; exact ⟨fun _ => this, fun h => absurd h (by omega), fun h => absurd h (by omega)⟩
                | 1, _ => simp at this; exact ⟨fun _ => h1 (by omega), fun _ => this, fun h => absurd h (by omega)⟩
                | 2, _ => simp at this; exact ⟨fun _ => h1 (by omega), fun _ => h2 (by omega), fun _ => this⟩
              case measure => simp [intOf]; omega
          · have hk3 : k = 3 := by omega
            have hR' : R3 wr w3.heap.size n1 n2 n3 := by subst hk3; exact hR
            have HO : Hid (o1 = true ∧ o2 = true ∧ o3' = true) := by
              obtain ⟨h1, h2, h3⟩ := HA.out
              exact ⟨h1 (by omega), h2 (by omega), h3 (by omega)⟩
            obtain ⟨c0, c1, c2⟩ := R3.cells hR'
            have V6 : Hid (Vr (wr.alloc (.cells (vc n1 n2 n3 pr) 45)) wr.heap.size n1 n2 n3 pr) := heap_alloc_new wr _
            have B6 : Hid (Below w0.heap.size w0 (wr.alloc (.cells (vc n1 n2 n3 pr) 45))) := hB.alloc hB.size _
            clear hR hR' hk3
            obtain ⟨ok, hok⟩ : ∃ b, okV n1 n2 n3 pr = b := ⟨_, rfl⟩
            have HI5 : Hid (readI s = if ok = true then some (n1, n2, n3, pr) else none) := by
              show _ = _
              rw [HI4.out, HO.out.1, HO.out.2.1, HO.out.2.2, hok]
              simp
            rw [hok] at qk
            clear hok
            go_wp2_with fail
            refine (qk _).mono ?_
            rintro e w7 ⟨rfl, b7⟩
            have V7 : Vr w7 wr.heap.size n1 n2 n3 pr := Vr.same V6.out b7
            have B7 : Below w0.heap.size w0 w7 := B6.out.trans (b7.mono B6.out.size)
            clear V6 B6 b7 qk c0 c1 c2
            cases ok
            · go_wp2_with fail
              go_ret
              exact ⟨by rw [HI5.out]; rfl, B7⟩
            · go_wp2_with (refine wpList_load_row rfl 45 _ rfl wr.heap.size rfl 45 (vc n1 n2 n3 pr) (0, 0) _ V7 Tryz.underlying45 rfl (sizeV n1 n2 n3 pr) ?_)
              go_ret
              exact ⟨by rw [HI5.out]; rfl, B7⟩
      · have HN : Hid (readI s = none) := by show _ = _; rw [HI2.out, read3_no pr h3]; simp
        have d3 : ((T.length : Int) != 3) = true := by simp; omega
        clear h3
        go_enter Tryz.func117, Tryz.ntmps117
        go_wp2_with fail
        refine q1.mono ?_
        rintro e w0 ⟨rfl, rfl⟩
        go_wp2_with fail
        refine q2.mono ?_
        rintro e w2 ⟨rfl, b2⟩
        go_wp2_with fail
        refine (q3 w2).mono ?_
        rintro e w3 ⟨v3, rfl, o3, b3⟩
        have hb3 : Below w0.heap.size w0 w3 := b2.trans (b3.mono b2.size)
        obtain ⟨ao3, cap3, hv3⟩ := o3.len
        subst hv3
        rw [ss_len]
        clear o3
        go_wp2
        go_ret
        exact ⟨by rw [HN.out]; rfl, hb3⟩
    · cases pe
      · have HI3 : Hid (readI s = read3 T pr) := by
          show _ = _
          have := HP.out
          rw [HI2.out]
          simp at this
          simp [this]
        by_cases h3 : T.length = 3
        · obtain ⟨x, y, z, rfl⟩ := three h3
          have hx := HTs.out x (by simp)
          have hy := HTs.out y (by simp)
          have hz := HTs.out z (by simp)
          go_enter Tryz.func117, Tryz.ntmps117
          go_wp2_with fail
          refine q1.mono ?_
          rintro e w0 ⟨rfl, rfl⟩
          go_wp2_with fail
          refine q2.mono ?_
          rintro e w2 ⟨rfl, b2⟩
          go_wp2_with fail
          refine (q3 w2).mono ?_
          rintro e w3 ⟨v3, rfl, o3, b3⟩
          have hb3 : Below w0.heap.size w0 w3 := b2.trans (b3.mono b2.size)
          obtain ⟨g, cap, rfl, hg1, hg2, hcap, hc⟩ := ownForm o3 (by simp [ss])
          have hl3 : (ss [x, y, z]).length = 3 := rfl
          rw [hl3] at hcap hc
          rw [hl3]
          obtain ⟨n1, o1, e1⟩ : ∃ a b, upTo (sb x) 1000000 = (a, b) := ⟨_, _, rfl⟩
          obtain ⟨n2, o2, e2⟩ : ∃ a b, upTo (sb y) 1000000 = (a, b) := ⟨_, _, rfl⟩
          obtain ⟨n3, o3', e3⟩ : ∃ a b, upTo (sb z) 1000000 = (a, b) := ⟨_, _, rfl⟩
          have HI4 : Hid (readI s = if o1 = true ∧ o2 = true ∧ o3' = true ∧ okV n1 n2 n3 pr = true then some (n1, n2, n3, pr) else none) := by
            show _ = _
            rw [HI3.out]
            rw [read3_three]
            rw [e1, e2, e3]
          have HQ : Hid (∀ (k : Nat) (t : ByteArray), [x, y, z][k]? = some t → ∃ n o, upTo (sb t) 1000000 = (n, o) ∧ [n1, n2, n3][k]? = some n ∧ [o1, o2, o3'][k]? = some o ∧ t.size ≤ 1048576) := by
            intro k t ht
            match k, ht with
            | 0, ht => simp at ht; subst ht; exact ⟨n1, o1, e1, rfl, rfl, by omega⟩
            | 1, ht => simp at ht; subst ht; exact ⟨n2, o2, e2, rfl, rfl, by omega⟩
            | 2, ht => simp at ht; subst ht; exact ⟨n3, o3', e3, rfl, rfl, by omega⟩
            | k + 3, ht => simp at ht
          have HC : Hid (∀ j, j < 3 → w3.cell? ⟨g, j, none⟩ = (ss [x, y, z])[j]?) := hc
          have HB3 : Hid (Below w0.heap.size w0 w3) := hb3
          have hs3 := hb3.size
          have qk : ∀ W, _ := fun W => ok_impl W n1 n2 n3 pr (by omega)
          unfold ver at qk
          obtain ⟨G, hG⟩ : ∃ G, G = w3.heap.size := ⟨_, rfl⟩
          have hGr : R3 (w3.alloc (.cells #[.int .i64 0, .int .i64 0, .int .i64 0] 139)) w3.heap.size 0 0 0 := heap_alloc_new w3 _
          have hGb : Below w3.heap.size w3 (w3.alloc (.cells #[.int .i64 0, .int .i64 0, .int .i64 0] 139)) := (Below.refl _ _).alloc (Nat.le_refl _) _
          clear e1 e2 e3 hc o3 hb3 b2 b3 hl3 q1 q2 q3 hx hy hz
          go_wp2
          go_loopw [44] (fun i wr => ∃ k : Nat, k ≤ 3 ∧ i = .int .i64 (k : Int) ∧ Hid ((0 < k → o1 = true) ∧ (1 < k → o2 = true) ∧ (2 < k → o3' = true)) ∧ R3 wr w3.heap.size (if 0 < k then n1 else 0) (if 1 < k then n2 else 0) (if 2 < k then n3 else 0) ∧ Below w3.heap.size w3 wr) (fun i _ => 3 - (intOf i).toNat)
          case atStart => exact ⟨0, by omega, rfl, ⟨fun h => absurd h (by omega), fun h => absurd h (by omega), fun h => absurd h (by omega)⟩, hGr, hGb⟩
          case round =>
            obtain ⟨k, hk, rfl, HA, hR, hb⟩ := hrel
            have hsz := hb.size
            have hB : Below w0.heap.size w0 wr := HB3.out.trans (hb.mono hs3)
            clear hGr hGb
            by_cases hlt : k < 3
            · obtain ⟨t, ht⟩ : ∃ t, [x, y, z][k]? = some t := ⟨[x, y, z][k]'(by simpa using hlt), List.getElem?_eq_getElem (by simpa using hlt)⟩
              obtain ⟨n, o, hu, hn, ho, htz⟩ := HQ.out k t ht
              have hcell : wr.cell? ⟨g, k, none⟩ = some (.string t) := by rw [hb.cell (p := ⟨g, k, none⟩) hg2, HC.out k hlt, ss_get, ht]; rfl
              have q := upto_impl wr t (by omega)
              rw [hu] at q
              simp only at q
              have HN1 : Hid ([n1, n2, n3][k]? = some n) := hn
              have HR : Hid (R3 wr w3.heap.size (if 0 < k then n1 else 0) (if 1 < k then n2 else 0) (if 2 < k then n3 else 0)) := hR
              have HOk : Hid ([o1, o2, o3'][k]? = some o) := ho
              clear hu hn ho hR ht
              cases o
              · have HN : Hid (readI s = none) := by
                  show _ = _
                  rw [HI4.out, if_neg]
                  rintro ⟨h1, h2, h3, _⟩
                  have := HOk.out
                  subst h1 h2 h3
                  match k, hlt with
                  | 0, _ => simp at this
                  | 1, _ => simp at this
                  | 2, _ => simp at this
                go_wp2_with (go_at_call 67; refine q.mono ?_; rintro e w5 ⟨rfl, b5⟩)
                go_ret
                exact ⟨by rw [HN.out]; rfl, hB.trans (b5.mono hB.size)⟩
              · go_wp2_with fail
                refine q.mono ?_
                rintro e w5 ⟨rfl, b5⟩
                have r5 := R3.same HR.out b5
                obtain ⟨old, hold⟩ := R3.at r5 hlt
                have hfz := R3.frozen r5 k
                have HR5 : Hid (R3 w5 w3.heap.size (if 0 < k then n1 else 0) (if 1 < k then n2 else 0) (if 2 < k then n3 else 0)) := r5
                have HB5 : Hid (Below w3.heap.size w3 w5) := hb.trans (b5.mono hsz)
                clear r5 q b5 HR
                go_wp2
                go_roundw
                case rel =>
                  refine ⟨k + 1, by omega, by go_num, ?_, R3.step HR5.out hlt HN1.out, HB5.out.setCell (p := ⟨w3.heap.size, k, none⟩) (Nat.le_refl _) _⟩
                  have := HOk.out
                  obtain ⟨h1, h2, h3⟩ := HA.out
                  match k, hlt with
                  | 0, _ => simp at this; exact ⟨fun _ => this, fun h => absurd h (by omega), fun h => absurd h (by omega)⟩
                  | 1, _ => simp at this; exact ⟨fun _ => h1 (by omega), fun _ => this, fun h => absurd h (by omega)⟩
                  | 2, _ => simp at this; exact ⟨fun _ => h1 (by omega), fun _ => h2 (by omega), fun _ => this⟩
                case measure => simp [intOf]; omega
            · have hk3 : k = 3 := by omega
              have hR' : R3 wr w3.heap.size n1 n2 n3 := by subst hk3; exact hR
              have HO : Hid (o1 = true ∧ o2 = true ∧ o3' = true) := by
                obtain ⟨h1, h2, h3⟩ := HA.out
                exact ⟨h1 (by omega), h2 (by omega), h3 (by omega)⟩
              obtain ⟨c0, c1, c2⟩ := R3.cells hR'
              have V6 : Hid (Vr (wr.alloc (.cells (vc n1 n2 n3 pr) 45)) wr.heap.size n1 n2 n3 pr) := heap_alloc_new wr _
              have B6 : Hid (Below w0.heap.size w0 (wr.alloc (.cells (vc n1 n2 n3 pr) 45))) := hB.alloc hB.size _
              clear hR hR' hk3
              obtain ⟨ok, hok⟩ : ∃ b, okV n1 n2 n3 pr = b := ⟨_, rfl⟩
              have HI5 : Hid (readI s = if ok = true then some (n1, n2, n3, pr) else none) := by
                show _ = _
                rw [HI4.out, HO.out.1, HO.out.2.1, HO.out.2.2, hok]
                simp
              rw [hok] at qk
              clear hok
              go_wp2_with fail
              refine (qk _).mono ?_
              rintro e w7 ⟨rfl, b7⟩
              have V7 : Vr w7 wr.heap.size n1 n2 n3 pr := Vr.same V6.out b7
              have B7 : Below w0.heap.size w0 w7 := B6.out.trans (b7.mono B6.out.size)
              clear V6 B6 b7 qk c0 c1 c2
              cases ok
              · go_wp2_with fail
                go_ret
                exact ⟨by rw [HI5.out]; rfl, B7⟩
              · go_wp2_with (refine wpList_load_row rfl 45 _ rfl wr.heap.size rfl 45 (vc n1 n2 n3 pr) (0, 0) _ V7 Tryz.underlying45 rfl (sizeV n1 n2 n3 pr) ?_)
                go_ret
                exact ⟨by rw [HI5.out]; rfl, B7⟩
        · have HN : Hid (readI s = none) := by show _ = _; rw [HI2.out, read3_no pr h3]; simp
          have d3 : ((T.length : Int) != 3) = true := by simp; omega
          clear h3
          go_enter Tryz.func117, Tryz.ntmps117
          go_wp2_with fail
          refine q1.mono ?_
          rintro e w0 ⟨rfl, rfl⟩
          go_wp2_with fail
          refine q2.mono ?_
          rintro e w2 ⟨rfl, b2⟩
          go_wp2_with fail
          refine (q3 w2).mono ?_
          rintro e w3 ⟨v3, rfl, o3, b3⟩
          have hb3 : Below w0.heap.size w0 w3 := b2.trans (b3.mono b2.size)
          obtain ⟨ao3, cap3, hv3⟩ := o3.len
          subst hv3
          rw [ss_len]
          clear o3
          go_wp2
          go_ret
          exact ⟨by rw [HN.out]; rfl, hb3⟩
      · have HN : Hid (readI s = none) := by
          show _ = _
          have := HP.out
          rw [HI2.out]
          simp at this
          simp [this]
        go_enter Tryz.func117, Tryz.ntmps117
        go_wp2_with fail
        refine q1.mono ?_
        rintro e w0 ⟨rfl, rfl⟩
        go_wp2_with fail
        refine q2.mono ?_
        rintro e w2 ⟨rfl, b2⟩
        go_wp2_with fail
        refine (q3 w2).mono ?_
        rintro e w3 ⟨v3, rfl, o3, b3⟩
        have hb3 : Below w0.heap.size w0 w3 := b2.trans (b3.mono b2.size)
        obtain ⟨ao3, cap3, hv3⟩ := o3.len
        subst hv3
        rw [ss_len]
        clear o3
        go_wp2
        go_ret
        exact ⟨by rw [HN.out]; rfl, hb3⟩

end Go.Proofs.YtbopliahafkecaaGreatDoor.Ver

/- Chapter 3, the landed code: a version that is read of a text, and whether it is one. -/
namespace Go.Proofs.YtbopliahafkecaaGreatDoor.Ver
open Go.RowKit Go.Proofs.YtbopliahafkecaaGreatDoor.Mem Go.Proofs.YtbopliahafkecaaGreatDoor.Laws Go.Proofs.YtbopliahafkecaaGreatDoor.Bytes Go.Proofs.YtbopliahafkecaaGreatDoor.Sha
set_option linter.unusedVariables false
set_option linter.unusedSimpArgs false

def parseI (s : ByteArray) : (Int × Int × Int × ByteArray) × Bool := match readI s with
  | none => ((0, 0, 0, ⟨#[]⟩), false)
  | some q => (q, true)

theorem zeroV : (Tryz.prog.info? 45).map (·.zero) = some (some (.agg #[.int .i64 0, .int .i64 0, .int .i64 0, .string ⟨#[]⟩])) := by kernel_rfl
theorem ta_nil (w : World) : (Instr.typeAssert .nilIface 20 45 true).run Tryz.prog w = .ok (.tuple #[.agg #[.int .i64 0, .int .i64 0, .int .i64 0, .string ⟨#[]⟩], .bool false]) w := by
  obtain ⟨i, hi, hz⟩ := Option.map_eq_some_iff.1 zeroV
  simp [Instr.typeAssert, run_underlying Tryz.underlying45, zeroValue, typeInfo, hi, hz, go_sem]
theorem ta_ok (w : World) (v : Value) : (Instr.typeAssert (.iface 45 v) 20 45 true).run Tryz.prog w = .ok (.tuple #[v, .bool true]) w := by
  simp [Instr.typeAssert, run_underlying Tryz.underlying45, go_sem]

set_option maxRecDepth 1000000 in
set_option maxHeartbeats 1000000 in
theorem parse_impl (w : World) (s : ByteArray) (hs : s.size ≤ 1048576) :
    Calls Tryz.prog 95 #[.string s] w fun e w' => e = .returned (.tuple #[verQ (parseI s).1, .bool (parseI s).2]) ∧ Below w.heap.size w w' := by
  have HB : Hid (Below w.heap.size w (w.alloc (.cells (vc 0 0 0 ⟨#[]⟩) 45))) := (Below.refl _ _).alloc (Nat.le_refl _) _
  have HV : Hid (Vr (w.alloc (.cells (vc 0 0 0 ⟨#[]⟩) 45)) w.heap.size 0 0 0 ⟨#[]⟩) := heap_alloc_new w _
  have q := readv_impl (w.alloc (.cells (vc 0 0 0 ⟨#[]⟩) 45)) s hs
  cases hr : readI s with
  | none =>
    have HP : Hid (parseI s = ((0, 0, 0, ⟨#[]⟩), false)) := by show _ = _; unfold parseI; rw [hr]
    rw [hr] at q
    unfold ifaceQ at q
    clear hr
    go_enter Tryz.func95, Tryz.ntmps95
    go_wp2_with fail
    refine q.mono ?_
    rintro e w1 ⟨rfl, b1⟩
    have V1 : Vr (w1.alloc (.cells (vc 0 0 0 ⟨#[]⟩) 45)) w.heap.size 0 0 0 ⟨#[]⟩ := Vr.same (Vr.same HV.out b1) ((Below.refl _ _).alloc (Nat.le_refl _) _)
    have V2 : Vr (w1.alloc (.cells (vc 0 0 0 ⟨#[]⟩) 45)) w1.heap.size 0 0 0 ⟨#[]⟩ := heap_alloc_new w1 _
    have B1 : Below w.heap.size w w1 := HB.out.trans (b1.mono HB.out.size)
    have B2 : Below w.heap.size w (w1.alloc (.cells (vc 0 0 0 ⟨#[]⟩) 45)) := B1.alloc B1.size _
    have ht := ta_nil
    clear q b1 HB HV
    go_wp2_with (first | (refine wpList_load_row rfl 45 _ rfl w1.heap.size rfl 45 (vc 0 0 0 ⟨#[]⟩) (0, 0) _ V2 Tryz.underlying45 rfl (sizeV 0 0 0 ⟨#[]⟩) ?_) | (refine wpList_store_row rfl 45 _ _ rfl w.heap.size (vc 0 0 0 ⟨#[]⟩) rfl rfl 45 (vc 0 0 0 ⟨#[]⟩) V1 (sizeV 0 0 0 ⟨#[]⟩) rfl (oneV 0 0 0 ⟨#[]⟩) ?_))
    exact bodyPost_ret (results_row_tmp rfl _ _ w.heap.size 45 (vc 0 0 0 ⟨#[]⟩) (0, 0) _ rfl (Vr.row V1 0 0 0 ⟨#[]⟩) Tryz.underlying45 rfl (sizeV 0 0 0 ⟨#[]⟩)) rfl ⟨by rw [HP.out]; rfl, below_setRow B2 (by omega) _⟩
  | some v =>
    obtain ⟨a, b, c, p⟩ := v
    have HP : Hid (parseI s = ((a, b, c, p), true)) := by show _ = _; unfold parseI; rw [hr]
    rw [hr] at q
    unfold ifaceQ verQ ver at q
    clear hr
    go_enter Tryz.func95, Tryz.ntmps95
    go_wp2_with fail
    refine q.mono ?_
    rintro e w1 ⟨rfl, b1⟩
    have V1 : Vr (w1.alloc (.cells (vc a b c p) 45)) w.heap.size 0 0 0 ⟨#[]⟩ := Vr.same (Vr.same HV.out b1) ((Below.refl _ _).alloc (Nat.le_refl _) _)
    have V2 : Vr (w1.alloc (.cells (vc a b c p) 45)) w1.heap.size a b c p := heap_alloc_new w1 _
    have B1 : Below w.heap.size w w1 := HB.out.trans (b1.mono HB.out.size)
    have B2 : Below w.heap.size w (w1.alloc (.cells (vc a b c p) 45)) := B1.alloc B1.size _
    have ht := fun w => ta_ok w (.agg #[.int .i64 a, .int .i64 b, .int .i64 c, .string p])
    clear q b1 HB HV
    go_wp2_with (first | (refine wpList_load_row rfl 45 _ rfl w1.heap.size rfl 45 (vc a b c p) (0, 0) _ V2 Tryz.underlying45 rfl (sizeV a b c p) ?_) | (refine wpList_store_row rfl 45 _ _ rfl w.heap.size (vc a b c p) rfl rfl 45 (vc 0 0 0 ⟨#[]⟩) V1 (sizeV a b c p) rfl (oneV a b c p) ?_))
    exact bodyPost_ret (results_row_tmp rfl _ _ w.heap.size 45 (vc a b c p) (0, 0) _ rfl (Vr.row V1 a b c p) Tryz.underlying45 rfl (sizeV a b c p)) rfl ⟨by rw [HP.out]; rfl, below_setRow B2 (by omega) _⟩

end Go.Proofs.YtbopliahafkecaaGreatDoor.Ver

/- Chapter 3: a text that is read as the landed code reads it, against the specification's way; plain facts alone. -/
namespace Go.Proofs.YtbopliahafkecaaGreatDoor.Ver
open Go.RowKit Go.Proofs.YtbopliahafkecaaGreatDoor.Mem Go.Proofs.YtbopliahafkecaaGreatDoor.Laws Go.Proofs.YtbopliahafkecaaGreatDoor.Bytes Go.Proofs.YtbopliahafkecaaGreatDoor.Sha
set_option linter.unusedVariables false
set_option linter.unusedSimpArgs false

theorem isNum_digs {l : List Int} (h : isNum l = true) : l.all isd = true ∧ l ≠ [] ∧ (1 < l.length → l.head? ≠ some 48) := by
  unfold isNum at h
  simp only [Bool.and_eq_true, Bool.or_eq_true, decide_eq_true_eq, Bool.not_eq_true', List.isEmpty_eq_false_iff, decide_eq_false_iff_not] at h
  refine ⟨h.1, ?_, ?_⟩
  · rcases h.2 with h2 | h2
    · rw [h2]; simp
    · exact h2.1
  · intro hl
    rcases h.2 with h2 | h2
    · rw [h2] at hl; simp at hl
    · exact h2.2
theorem isNum_of {l : List Int} (h : l.all isd = true) (h0 : l ≠ []) (h1 : l.head? ≠ some 48) : isNum l = true := by
  unfold isNum
  have : l.isEmpty = false := List.isEmpty_eq_false_iff.2 h0
  simp [h, this, h1]

theorem pow_one (n : Nat) : (1 : Int) ≤ 10 ^ n := by
  induction n with
  | zero => simp
  | succ n ih => rw [Int.pow_succ]; omega
theorem pow_up (m : Nat) : ∀ k : Nat, (10 : Int) ^ m ≤ 10 ^ (m + k) := by
  intro k
  induction k with
  | zero => simp
  | succ k ih =>
    have := pow_one (m + k)
    rw [← Nat.add_assoc, Int.pow_succ]
    omega
theorem pow_le {m n : Nat} (h : m ≤ n) : (10 : Int) ^ m ≤ 10 ^ n := by
  have := pow_up m (n - m)
  rw [show m + (n - m) = n by omega] at this
  exact this
theorem snoc_of {l : List Int} (h : l ≠ []) : ∃ l' c, l = l' ++ [c] := ⟨l.dropLast, l.getLast h, (List.dropLast_concat_getLast h).symm⟩
/-- digits whose first is no nought are no less than a power of ten -/
theorem numv_big : ∀ (n : Nat) (l : List Int), l.length = n + 1 → l.all isd = true → l.head? ≠ some 48 → (10 : Int) ^ n ≤ numv l := by
  intro n
  induction n with
  | zero =>
    intro l hl ha hh
    match l, hl with
    | [c], _ =>
      simp [isd] at ha
      simp at hh
      simp [numv]
      omega
  | succ n ih =>
    intro l hl ha hh
    obtain ⟨l', c, rfl⟩ := snoc_of (l := l) (by intro h; rw [h] at hl; simp at hl)
    have hl' : l'.length = n + 1 := by simp at hl; omega
    rw [List.all_append, Bool.and_eq_true] at ha
    have hc : 48 ≤ c ∧ c ≤ 57 := by simpa [isd] using ha.2
    have h2 : l'.head? ≠ some 48 := by
      cases l' with
      | nil => simp at hl'
      | cons x y => simpa using hh
    have := ih l' hl' ha.1 h2
    rw [numv_snoc, Int.pow_succ]
    omega

theorem num_upTo (l : List Int) : (inM (number l) = true ↔ (upTo l 1000000).2 = true) ∧ (inM (number l) = true → number l = (upTo l 1000000).1) := by
  by_cases hn : isNum l = true
  · obtain ⟨ha, h0, hh⟩ := isNum_digs hn
    have hp : 0 < l.length := List.length_pos_iff.2 h0
    by_cases h8 : l.length ≤ 8
    · have hnum : number l = numv l := by
        unfold number digs
        rw [if_neg]
        rw [ha, List.isEmpty_eq_false_iff.2 h0]
        rintro (h | h | h)
        · simp at h
        · omega
        · exact hh h.1 h.2
      have hv := numv_nonneg ha
      by_cases hm : numv l ≤ 1000000
      · have hu : upTo l 1000000 = (numv l, true) := by unfold upTo; rw [if_pos ⟨hn, hm⟩]
        rw [hu, hnum]
        exact ⟨⟨fun _ => rfl, fun _ => by unfold inM; simp [hv, hm]⟩, fun _ => rfl⟩
      · have hu : upTo l 1000000 = (0, false) := by unfold upTo; rw [if_neg (fun h => hm h.2)]
        rw [hu, hnum]
        have : inM (numv l) = false := by unfold inM; simp; omega
        rw [this]
        simp
    · have hb := numv_big (l.length - 1) l (by omega) ha (hh (by omega))
      have h8' : (10 : Int) ^ 8 ≤ 10 ^ (l.length - 1) := pow_le (by omega)
      have hu : upTo l 1000000 = (0, false) := by unfold upTo; rw [if_neg (fun h => by have := h.2; omega)]
      have hnum : number l = -1 := by unfold number; rw [if_pos (.inr (.inl (by omega)))]
      rw [hu, hnum]
      simp [inM]
  · have hu : upTo l 1000000 = (0, false) := by unfold upTo; rw [if_neg (fun h => hn h.1)]
    have hnum : number l < 0 := by
      by_cases h8 : l.length ≤ 8
      · have := isNum_number h8
        rw [Bool.eq_false_iff.2 hn] at this
        have := of_decide_eq_false this.symm
        omega
      · unfold number
        rw [if_pos (.inr (.inl (by omega)))]
        omega
    have : inM (number l) = false := by unfold inM; simp; omega
    rw [hu, this]
    simp

theorem digF_back : ∀ (f : Nat) (l : List Int), isNum l = true → numv l < 10 ^ (f + 1) → digF f (numv l).toNat = l := by
  intro f
  induction f with
  | zero =>
    intro l hn hv
    obtain ⟨ha, h0, hh⟩ := isNum_digs hn
    have hp : 0 < l.length := List.length_pos_iff.2 h0
    have h1 : l.length = 1 := by
      by_cases h : l.length = 1
      · exact h
      · have hb := numv_big (l.length - 1) l (by omega) ha (hh (by omega))
        have : (10 : Int) ^ 1 ≤ 10 ^ (l.length - 1) := pow_le (by omega)
        simp at hv this
        omega
    match l, h1 with
    | [c], _ =>
      have hc : 48 ≤ c ∧ c ≤ 57 := by simpa [isd] using ha
      simp [digF, numv]
      omega
  | succ f ih =>
    intro l hn hv
    obtain ⟨ha, h0, hh⟩ := isNum_digs hn
    have hp : 0 < l.length := List.length_pos_iff.2 h0
    by_cases h1 : l.length = 1
    · match l, h1 with
      | [c], _ =>
        have hc : 48 ≤ c ∧ c ≤ 57 := by simpa [isd] using ha
        have : (numv [c]).toNat < 10 := by simp [numv]; omega
        unfold digF
        rw [if_pos this]
        simp [numv]
        omega
    · obtain ⟨l', c, rfl⟩ := snoc_of h0
      have hl1 : 0 < l'.length := by simp at h1; exact List.length_pos_iff.2 h1
      have hh2 : l'.head? ≠ some 48 := by
        have := hh (by simp; omega)
        cases l' with
        | nil => simp at hl1
        | cons x y => simpa using this
      rw [List.all_append, Bool.and_eq_true] at ha
      have hc : 48 ≤ c ∧ c ≤ 57 := by simpa [isd] using ha.2
      have hn' : isNum l' = true := isNum_of ha.1 (List.length_pos_iff.1 hl1) hh2
      have hb := numv_big (l'.length - 1) l' (by omega) ha.1 hh2
      have hpos : (1 : Int) ≤ 10 ^ (l'.length - 1) := pow_one _
      have hs := numv_snoc l' c
      have hv' : numv l' < 10 ^ (f + 1) := by rw [hs, Int.pow_succ] at hv; omega
      have hr := ih l' hn' hv'
      rw [hs]
      have e1 : (numv l' * 10 + (c - 48)).toNat / 10 = (numv l').toNat := by omega
      have e2 : (((numv l' * 10 + (c - 48)).toNat % 10 : Nat) : Int) = c - 48 := by omega
      unfold digF
      rw [if_neg (by omega), e1, e2, hr]
      simp
      omega

/-- parts with a sign between -/
def join (b : Int) : List (List Int) → List Int
  | [] => []
  | [x] => x
  | x :: y :: r => x ++ [b] ++ join b (y :: r)
theorem join_split (b : Int) : ∀ (l cur : List Int), join b (splitL b cur l) = cur ++ l := by
  intro l
  induction l with
  | nil => intro cur; simp [splitL, join]
  | cons c r ih =>
    intro cur
    unfold splitL
    split
    · rename_i h
      have hp := splitL_pos b r []
      have hi := ih []
      cases hs : splitL b [] r with
      | nil => rw [hs] at hp; simp at hp
      | cons x y =>
        rw [hs] at hi
        rw [join, hi, h]
        simp
    · rw [ih]; simp

theorem eqT_iff (a b : ByteArray) : eqT a b = true ↔ a = b := by
  unfold eqT
  rw [beq_iff_eq, ByteArray.toList_eq, ByteArray.toList_eq]
  constructor
  · intro h; apply ByteArray.ext; apply Array.ext'; exact h
  · rintro rfl; rfl
theorem parse3_no {s u : ByteArray} (pr : ByteArray) (h : (splitT 46 u).length ≠ 3) : parse3 s u pr = ((0, 0, 0, ⟨#[]⟩), false) := by
  unfold parse3
  match splitT 46 u, h with
  | [], _ => rfl
  | [_], _ => rfl
  | [_, _], _ => rfl
  | [_, _, _], h => exact absurd rfl h
  | _ :: _ :: _ :: _ :: _, _ => rfl
theorem parse3_yes {s u pr x y z : ByteArray} (h : splitT 46 u = [x, y, z]) : parse3 s u pr = if okV (number (sb x)) (number (sb y)) (number (sb z)) pr = true ∧ eqT (Plain.txt (verText (number (sb x)) (number (sb y)) (number (sb z)) pr)) s = true then ((number (sb x), number (sb y), number (sb z), pr), true) else ((0, 0, 0, ⟨#[]⟩), false) := by
  unfold parse3
  rw [h]
def outQ : Option (Int × Int × Int × ByteArray) → (Int × Int × Int × ByteArray) × Bool
  | none => ((0, 0, 0, ⟨#[]⟩), false)
  | some q => (q, true)
theorem digits_back {l : List Int} (h : inM (number l) = true) : digF 6 (number l).toNat = l := by
  obtain ⟨h1, h2⟩ := num_upTo l
  have h3 := h1.1 h
  rw [h2 h]
  unfold upTo at h3 ⊢
  split at h3
  · rename_i hc
    rw [if_pos hc]
    exact digF_back 6 l hc.1 (by have := hc.2; simp; omega)
  · simp at h3
theorem read_core (s u pr : ByteArray) (d : Bool) (hS : sb s = [118] ++ sb u ++ (if d = true then [45] ++ sb pr else [])) (hd : d = false → pr.size = 0) :
    outQ (if ¬ (d = true ∧ pr.size = 0) then read3 (splitT 46 u) pr else none) = parse3 s u pr := by
  by_cases h3 : (splitT 46 u).length = 3
  · obtain ⟨x, y, z, hT⟩ := three h3
    have hu : sb u = sb x ++ [46] ++ (sb y ++ [46] ++ sb z) := by
      have h1 := splitT_sb 46 u
      rw [hT] at h1
      have h2 := join_split 46 (sb u) []
      unfold split at h1
      rw [← h1] at h2
      simpa [join] using h2.symm
    rw [parse3_yes hT, hT, read3_three]
    obtain ⟨a1, a2⟩ := num_upTo (sb x)
    obtain ⟨b1, b2⟩ := num_upTo (sb y)
    obtain ⟨c1, c2⟩ := num_upTo (sb z)
    by_cases hok : okV (number (sb x)) (number (sb y)) (number (sb z)) pr = true
    · have hk := hok
      unfold okV at hk
      simp only [Bool.and_eq_true] at hk
      obtain ⟨⟨⟨k1, k2⟩, k3⟩, _⟩ := hk
      have hr : ((upTo (sb x) 1000000).2 = true ∧ (upTo (sb y) 1000000).2 = true ∧ (upTo (sb z) 1000000).2 = true ∧ okV (upTo (sb x) 1000000).1 (upTo (sb y) 1000000).1 (upTo (sb z) 1000000).1 pr = true) := by
        refine ⟨a1.1 k1, b1.1 k2, c1.1 k3, ?_⟩
        rw [← a2 k1, ← b2 k2, ← c2 k3]
        exact hok
      rw [if_pos hr, ← a2 k1, ← b2 k2, ← c2 k3]
      have hvt : verText (number (sb x)) (number (sb y)) (number (sb z)) pr = [118] ++ sb u ++ (if pr.size = 0 then [] else [45] ++ sb pr) := by
        unfold verText
        rw [if_pos hok]
        unfold vt
        rw [digits_back k1, digits_back k2, digits_back k3, hu]
        simp [List.append_assoc]
      rw [hvt]
      cases d with
      | false =>
        have h0 := hd rfl
        have he : Plain.txt ([118] ++ sb u ++ (if pr.size = 0 then [] else [45] ++ sb pr)) = s := by
          have hs' : [118] ++ sb u ++ (if pr.size = 0 then [] else [45] ++ sb pr) = sb s := by rw [hS]; simp [h0]
          rw [hs', txt_sbv]
        rw [he, if_pos (by simp), if_pos ⟨hok, (eqT_iff s s).2 rfl⟩]
        rfl
      | true =>
        by_cases h0 : pr.size = 0
        · have hne : ¬ eqT (Plain.txt ([118] ++ sb u ++ (if pr.size = 0 then [] else [45] ++ sb pr))) s = true := by
            intro he
            have he := (eqT_iff _ _).1 he
            have h5 : (Plain.txt ([118] ++ sb u ++ (if pr.size = 0 then [] else [45] ++ sb pr))).size = s.size := by rw [he]
            rw [txt_sizev, ← sb_len s, hS] at h5
            simp [h0] at h5
          rw [if_neg (by simp [h0]), if_neg (fun h => hne h.2)]
          rfl
        · have he : Plain.txt ([118] ++ sb u ++ (if pr.size = 0 then [] else [45] ++ sb pr)) = s := by
            have hs' : [118] ++ sb u ++ (if pr.size = 0 then [] else [45] ++ sb pr) = sb s := by rw [hS]; simp [h0]
            rw [hs', txt_sbv]
          rw [he, if_pos (by simp [h0]), if_pos ⟨hok, (eqT_iff s s).2 rfl⟩]
          rfl
    · have hr : ¬ ((upTo (sb x) 1000000).2 = true ∧ (upTo (sb y) 1000000).2 = true ∧ (upTo (sb z) 1000000).2 = true ∧ okV (upTo (sb x) 1000000).1 (upTo (sb y) 1000000).1 (upTo (sb z) 1000000).1 pr = true) := by
        rintro ⟨h1, h2, h3, h4⟩
        rw [← a2 (a1.2 h1), ← b2 (b1.2 h2), ← c2 (c1.2 h3)] at h4
        exact hok h4
      rw [if_neg hr, ite_self, if_neg (fun h => hok h.1)]
      rfl
  · rw [parse3_no pr h3, read3_no pr h3]
    split <;> rfl

theorem sb_extract (s : ByteArray) (f k : Nat) (hk : k ≤ s.size) : sb (s.extract f k) = ((sb s).drop f).take (k - f) := by
  rw [ext_txt]
  refine sb_txtv fun x hx => sb_byt s x ?_
  exact List.mem_of_mem_drop (List.mem_of_mem_take hx)

theorem parse_same (s : ByteArray) : parseI s = parseV s := by
  have hout : parseI s = outQ (readI s) := by unfold parseI outQ; cases readI s <;> rfl
  rw [hout]
  unfold readI parseV
  by_cases hv : (sb s).head? = some 118
  · have hva : vAt s = true := by unfold vAt; simp [hv]
    have hvo : vOff s = s.extract 1 s.size := by unfold vOff; rw [if_pos hva]
    rw [if_pos hv, hvo, hva]
    have hS : sb s = [118] ++ sb (s.extract 1 s.size) := by
      cases hb : sb s with
      | nil => rw [hb] at hv; simp at hv
      | cons x y =>
        rw [hb] at hv
        simp at hv
        have hl := sb_len s
        rw [hb] at hl
        simp at hl
        rw [sb_extract s 1 s.size (Nat.le_refl _), hb, hv]
        simp
        rw [List.take_of_length_le (by omega)]
    obtain ⟨r, hr⟩ : ∃ r, r = s.extract 1 s.size := ⟨_, rfl⟩
    rw [← hr] at hS ⊢
    clear hr hvo
    cases hd : (sb r).findIdx? (fun c => c == 45) with
    | none =>
      have e1 : dash r = -1 := by unfold dash; rw [hd]
      have e2 : cut r = (r, ⟨#[]⟩) := by unfold cut; rw [hd]
      rw [e1, e2]
      have h := read_core s r ⟨#[]⟩ false (by simpa using hS) (fun _ => rfl)
      simpa using h
    | some i =>
      have e1 : dash r = (i : Int) := by unfold dash; rw [hd]
      have e2 : cut r = (r.extract 0 i, r.extract (i + 1) r.size) := by unfold cut; rw [hd]
      have hi := dash_some hd
      rw [e1, e2]
      have hc : (sb r)[i]? = some 45 := by
        obtain ⟨h1, h2, _⟩ := List.findIdx?_eq_some_iff_getElem.1 hd
        rw [List.getElem?_eq_getElem h1]
        simpa using h2
      have hsp : sb r = sb (r.extract 0 i) ++ ([45] ++ sb (r.extract (i + 1) r.size)) := by
        rw [sb_extract r 0 i (by omega), sb_extract r (i + 1) r.size (Nat.le_refl _)]
        conv => lhs; rw [← List.take_append_drop i (sb r), drop_consI hc]
        simp
        rw [List.take_of_length_le (by simp [sb_len])]
      have h := read_core s (r.extract 0 i) (r.extract (i + 1) r.size) true (by rw [hS, hsp]; simp) (fun h => by cases h)
      simpa using h
  · have hva : vAt s = false := by unfold vAt; simp [hv]
    rw [if_neg hv, if_neg (by rw [hva]; simp)]
    rfl

end Go.Proofs.YtbopliahafkecaaGreatDoor.Ver

/- Chapter 3: a version comes back of its text; plain facts alone. -/
namespace Go.Proofs.YtbopliahafkecaaGreatDoor.Ver
open Go.RowKit Go.Proofs.YtbopliahafkecaaGreatDoor.Mem Go.Proofs.YtbopliahafkecaaGreatDoor.Laws Go.Proofs.YtbopliahafkecaaGreatDoor.Bytes Go.Proofs.YtbopliahafkecaaGreatDoor.Sha
set_option linter.unusedVariables false
set_option linter.unusedSimpArgs false

theorem digF_good : ∀ (f n : Nat), n < 10 ^ (f + 1) → (digF f n).all isd = true ∧ numv (digF f n) = (n : Int) ∧ (0 < n → (digF f n).head? ≠ some 48) ∧ (n = 0 → digF f n = [48]) := by
  intro f
  induction f with
  | zero =>
    intro n hn
    have hn' : n < 10 := by simpa using hn
    refine ⟨by simp [digF, isd]; omega, by simp [digF, numv]; omega, fun h => by simp [digF]; omega, fun h => by simp [digF, h]⟩
  | succ f ih =>
    intro n hn
    by_cases h : n < 10
    · have e : digF (f + 1) n = [48 + (n : Int)] := by rw [digF, if_pos h]
      rw [e]
      refine ⟨by simp [isd]; omega, by simp [numv]; omega, fun h => by simp; omega, fun h => by simp [h]⟩
    · have e : digF (f + 1) n = digF f (n / 10) ++ [48 + ((n % 10 : Nat) : Int)] := by rw [digF, if_neg h]
      obtain ⟨i1, i2, i3, i4⟩ := ih (n / 10) (by rw [Nat.pow_succ] at hn; omega)
      have hl := digF_len f (n / 10)
      rw [e]
      refine ⟨?_, ?_, fun _ => ?_, fun h => by omega⟩
      · rw [List.all_append, i1]
        simp [isd]
        omega
      · rw [numv_snoc, i2]
        omega
      · have := i3 (by omega)
        cases hd : digF f (n / 10) with
        | nil => rw [hd] at hl; simp at hl
        | cons x y => rw [hd] at this; simpa using this
theorem digF_num {n : Nat} (h : n ≤ 1000000) : number (digF 6 n) = (n : Int) := by
  obtain ⟨i1, i2, i3, i4⟩ := digF_good 6 n (by omega)
  have hl := digF_len 6 n
  unfold number digs
  rw [if_neg, i2]
  rw [i1]
  rintro (h1 | h1 | h1)
  · cases hd : digF 6 n with
    | nil => rw [hd] at hl; simp at hl
    | cons x y => rw [hd] at h1; simp at h1
  · omega
  · by_cases h0 : n = 0
    · rw [i4 h0] at h1
      simp at h1
    · exact i3 (by omega) h1.2
theorem digF_no {f n : Nat} (h : n < 10 ^ (f + 1)) (b : Int) (hb : b < 48) : ∀ x ∈ digF f n, x ≠ b := by
  obtain ⟨i1, _⟩ := digF_good f n h
  intro x hx
  have := List.all_eq_true.1 i1 x hx
  simp [isd] at this
  omega
theorem split_part (b : Int) (x r : List Int) (h : ∀ y ∈ x, y ≠ b) : splitL b [] (x ++ [b] ++ r) = x :: splitL b [] r := by
  rw [splitL_skip b x.length (x ++ [b] ++ r) [] (by intro y hy; simp at hy; exact h y hy)]
  simp [splitL]
theorem split_last (b : Int) (x : List Int) (h : ∀ y ∈ x, y ≠ b) : splitL b [] x = [x] := by
  rw [splitL_skip b x.length x [] (by intro y hy; simp at hy; exact h y hy)]
  simp [splitL]

theorem findIdx_app (x r : List Int) (h : ∀ y ∈ x, y ≠ 45) : (x ++ [45] ++ r).findIdx? (fun c => c == 45) = some x.length := by
  rw [List.findIdx?_eq_some_iff_getElem]
  refine ⟨by simp, by simp, fun j hj => ?_⟩
  have : (x ++ [45] ++ r)[j]'(by simp; omega) = x[j] := by simp [List.getElem_append, hj]
  rw [this]
  simp
  exact h _ (List.getElem_mem hj)
theorem findIdx_none (x : List Int) (h : ∀ y ∈ x, y ≠ 45) : x.findIdx? (fun c => c == 45) = none := by
  rw [List.findIdx?_eq_none_iff]
  intro y hy
  simp
  exact h y hy

theorem splitT_of {s : ByteArray} {x y z : List Int} (hs : sb s = x ++ [46] ++ (y ++ [46] ++ z)) (hx : ∀ q ∈ x, q ≠ 46) (hy : ∀ q ∈ y, q ≠ 46) (hz : ∀ q ∈ z, q ≠ 46) : splitT 46 s = [Plain.txt x, Plain.txt y, Plain.txt z] := by
  unfold splitT split
  rw [hs, split_part 46 x _ hx, split_part 46 y _ hy, split_last 46 z hz]
  rfl

theorem nilB {p : ByteArray} (h : p.size = 0) : p = ⟨#[]⟩ := by
  have h2 : p.data.size = 0 := h
  apply ByteArray.ext
  exact Array.eq_empty_of_size_eq_zero h2

theorem parse_text {a b c : Int} {p : ByteArray} (hok : okV a b c p = true) : parseV (Plain.txt (vt a b c p)) = ((a, b, c, p), true) := by
  have hk := hok
  unfold okV at hk
  simp only [Bool.and_eq_true] at hk
  obtain ⟨n1, rfl, h1⟩ := inM_nat hk.1.1.1
  obtain ⟨n2, rfl, h2⟩ := inM_nat hk.1.1.2
  obtain ⟨n3, rfl, h3⟩ := inM_nat hk.1.2
  have y1 := digF_byt 6 n1 (by omega)
  have y2 := digF_byt 6 n2 (by omega)
  have y3 := digF_byt 6 n3 (by omega)
  have o46 : Byt [46] := fun x hx => by rw [List.mem_singleton] at hx; omega
  have o45 : Byt [45] := fun x hx => by rw [List.mem_singleton] at hx; omega
  have o118 : Byt [118] := fun x hx => by rw [List.mem_singleton] at hx; omega
  obtain ⟨N, hN⟩ : ∃ N, N = digF 6 n1 ++ [46] ++ (digF 6 n2 ++ [46] ++ digF 6 n3) := ⟨_, rfl⟩
  have yN : Byt N := by rw [hN]; exact (y1.app o46).app ((y2.app o46).app y3)
  have hv : vt n1 n2 n3 p = [118] ++ (N ++ (if p.size = 0 then [] else [45] ++ sb p)) := by
    unfold vt
    rw [hN]
    simp [List.append_assoc]
  have yR : Byt (N ++ (if p.size = 0 then [] else [45] ++ sb p)) := by
    refine yN.app ?_
    split
    · intro x hx; cases hx
    · exact o45.app (sb_byt p)
  have hno : ∀ y ∈ N, y ≠ 45 := by
    intro y hy
    rw [hN] at hy
    simp at hy
    rcases hy with hy | rfl | hy | rfl | hy
    · exact digF_no (by omega) 45 (by omega) y hy
    · omega
    · exact digF_no (by omega) 45 (by omega) y hy
    · omega
    · exact digF_no (by omega) 45 (by omega) y hy
  have hsb : sb (Plain.txt (vt n1 n2 n3 p)) = vt n1 n2 n3 p := sb_txtv (by rw [hv]; exact o118.app yR)
  obtain ⟨s, hs⟩ : ∃ s, s = Plain.txt (vt n1 n2 n3 p) := ⟨_, rfl⟩
  rw [← hs] at hsb ⊢
  unfold parseV
  rw [if_pos (by rw [hsb, hv]; rfl)]
  have hr : sb (s.extract 1 s.size) = N ++ (if p.size = 0 then [] else [45] ++ sb p) := by
    rw [sb_extract s 1 s.size (Nat.le_refl _), hsb, hv]
    have hl := sb_len s
    rw [hsb, hv] at hl
    simp at hl ⊢
    rw [List.take_of_length_le (by simp; omega)]
  obtain ⟨r, hrr⟩ : ∃ r, r = s.extract 1 s.size := ⟨_, rfl⟩
  rw [← hrr] at hr ⊢
  have hcut : sb (cut r).1 = N ∧ (cut r).2 = p := by
    by_cases hp : p.size = 0
    · rw [if_pos hp, List.append_nil] at hr
      unfold cut
      rw [hr, findIdx_none N hno]
      refine ⟨hr, ?_⟩
      exact (nilB hp).symm
    · rw [if_neg hp, ← List.append_assoc] at hr
      unfold cut
      rw [hr, findIdx_app N (sb p) hno]
      have hl : r.size = N.length + 1 + p.size := by
        have h5 := sb_len r
        rw [hr, List.length_append, List.length_append, sb_len] at h5
        exact h5.symm
      refine ⟨?_, ?_⟩
      · show sb (r.extract 0 N.length) = N
        rw [sb_extract r 0 N.length (by omega), hr]
        simp
      · show r.extract (N.length + 1) r.size = p
        have : sb (r.extract (N.length + 1) r.size) = sb p := by
          rw [sb_extract r (N.length + 1) r.size (Nat.le_refl _), hr]
          simp
          rw [List.take_of_length_le (by rw [sb_len]; omega)]
        rw [← txt_sbv (r.extract (N.length + 1) r.size), this, txt_sbv]
  obtain ⟨u, pr, huv⟩ : ∃ u pr, cut r = (u, pr) := ⟨_, _, rfl⟩
  rw [huv] at hcut ⊢
  simp only at hcut ⊢
  obtain ⟨hu, rfl⟩ := hcut
  have hT := splitT_of (s := u) (by rw [hu, hN]) (digF_no (by omega) 46 (by omega)) (digF_no (by omega) 46 (by omega)) (digF_no (by omega) 46 (by omega))
  rw [parse3_yes hT, sb_txtv y1, sb_txtv y2, sb_txtv y3, digF_num h1, digF_num h2, digF_num h3, if_pos]
  refine ⟨hok, (eqT_iff _ _).2 ?_⟩
  unfold verText
  rw [if_pos hok, hs]

theorem parse_back {s : ByteArray} {a b c : Int} {p : ByteArray} (h : parseV s = ((a, b, c, p), true)) : okV a b c p = true ∧ Plain.txt (verText a b c p) = s := by
  unfold parseV at h
  split at h
  · by_cases h3 : (splitT 46 (cut (s.extract 1 s.size)).1).length = 3
    · obtain ⟨x, y, z, hT⟩ := three h3
      rw [parse3_yes hT] at h
      split at h
      · rename_i hc
        simp only [Prod.mk.injEq, and_true] at h
        obtain ⟨rfl, rfl, rfl, rfl⟩ := h
        exact ⟨hc.1, (eqT_iff _ _).1 hc.2⟩
      · simp at h
    · rw [parse3_no _ h3] at h
      simp at h
  · simp at h

end Go.Proofs.YtbopliahafkecaaGreatDoor.Ver

/- Chapter 5: names; plain facts alone. -/
namespace Go.Proofs.YtbopliahafkecaaGreatDoor.Ent
open Go.RowKit Go.Proofs.YtbopliahafkecaaGreatDoor.Mem Go.Proofs.YtbopliahafkecaaGreatDoor.Laws Go.Proofs.YtbopliahafkecaaGreatDoor.Bytes Go.Proofs.YtbopliahafkecaaGreatDoor.Sha Go.Proofs.YtbopliahafkecaaGreatDoor.Ver Go.Proofs.YtbopliahafkecaaGreatDoor.Mod
set_option linter.unusedVariables false
set_option linter.unusedSimpArgs false

/-- a sign that is no mark between parts is in a part -/
theorem in_part (b : Int) : ∀ (l cur : List Int) (x : Int), x ≠ b → (x ∈ l ∨ x ∈ cur) → ∃ p ∈ splitL b cur l, x ∈ p := by
  intro l
  induction l with
  | nil =>
    intro cur x hx h
    rcases h with h | h
    · cases h
    · exact ⟨cur, by simp [splitL], h⟩
  | cons c r ih =>
    intro cur x hx h
    rw [splitL]
    split
    · rename_i hc
      rcases h with h | h
      · rcases List.mem_cons.1 h with rfl | h
        · exact absurd hc hx
        · obtain ⟨p, hp, hxp⟩ := ih [] x hx (.inl h)
          exact ⟨p, List.mem_cons_of_mem _ hp, hxp⟩
      · exact ⟨cur, by simp, h⟩
    · obtain ⟨p, hp, hxp⟩ := ih (cur ++ [c]) x hx (by
        rcases h with h | h
        · rcases List.mem_cons.1 h with rfl | h
          · exact .inr (by simp)
          · exact .inl h
        · exact .inr (by simp [h]))
      exact ⟨p, hp, hxp⟩
theorem signs4_no : ∀ (l : List Int) (i : Nat), signs4 i l = true → ∀ x ∈ l, x ≠ 64 := by
  intro l
  induction l with
  | nil => intro i _ x hx; cases hx
  | cons c r ih =>
    intro i h x hx
    simp only [signs4, Bool.and_eq_true] at h
    rcases List.mem_cons.1 hx with rfl | hx
    · rintro rfl
      have := h.1
      simp [sign4, plain4] at this
    · exact ih _ h.2 x hx
theorem path_no {l : List Int} (h : path4 l = true) : ∀ x ∈ l, x ≠ 64 := by
  intro x hx hx64
  subst hx64
  obtain ⟨p, hp, hxp⟩ := in_part 47 l [] 64 (by omega) (.inl hx)
  unfold path4 at h
  simp only [Bool.and_eq_true, List.all_eq_true] at h
  have := h.1.1 p hp
  unfold part4 at this
  rw [Bool.and_eq_true] at this
  exact signs4_no p 0 this.1 64 hxp rfl

theorem vt_no {a b c : Int} {p : ByteArray} (h : okV a b c p = true) : ∀ x ∈ vt a b c p, x ≠ 64 := by
  unfold okV at h
  simp only [Bool.and_eq_true, Bool.or_eq_true] at h
  obtain ⟨⟨⟨ha, hb⟩, hc⟩, hp⟩ := h
  have hd : ∀ {z : Int}, inM z = true → ∀ x ∈ digF 6 z.toNat, x ≠ 64 := by
    intro z hz x hx hx64
    obtain ⟨m, rfl, hm⟩ := inM_nat hz
    have := (digF_good 6 m (by simp; omega)).1
    rw [List.all_eq_true] at this
    have h2 := this x (by simpa using hx)
    subst hx64
    simp [isd] at h2
  intro x hx hx64
  subst hx64
  unfold vt at hx
  simp only [List.mem_append, List.mem_singleton] at hx
  rcases hx with (((((hx | hx) | hx) | hx) | hx) | hx) | hx
  · omega
  · exact hd ha 64 hx rfl
  · omega
  · exact hd hb 64 hx rfl
  · omega
  · exact hd hc 64 hx rfl
  · split at hx
    · cases hx
    · rename_i hz
      simp only [List.mem_append, List.mem_singleton] at hx
      rcases hx with hx | hx
      · omega
      · rcases hp with hp | hp
        · exact hz (of_decide_eq_true hp)
        · obtain ⟨q, hq, hxq⟩ := in_part 46 (sb p) [] 64 (by omega) (.inl hx)
          unfold Ver.pre at hp
          rw [Bool.and_eq_true, List.all_eq_true] at hp
          have h7 : Ver.part q = true := hp.1 q hq
          unfold Ver.part at h7
          rw [Bool.and_eq_true, Bool.and_eq_true] at h7
          have h8 := List.all_eq_true.1 h7.1.1 64 hxq
          simp [psign] at h8

theorem ok_parts {n : Nd} (h : n.ok = true) : path4 (sb n.path) = true ∧ okV n.a n.b n.c n.pre = true := by
  unfold Nd.ok fits4 at h
  simp only [Bool.and_eq_true, decide_eq_true_eq] at h
  refine ⟨?_, h.1.2⟩
  by_cases hp : path4 (sb n.path) = true
  · exact hp
  · have h1 := h.1.1
    unfold major4 at h1
    rw [if_neg hp] at h1
    omega
theorem sb_app (a b : ByteArray) : sb (a ++ b) = sb a ++ sb b := by unfold sb; simp
theorem sb_at : sb ⟨#[64]⟩ = [64] := rfl
theorem verText_ok {a b c : Int} {p : ByteArray} (h : okV a b c p = true) : verText a b c p = vt a b c p := by unfold verText; rw [if_pos h]
theorem vt_byt {a b c : Int} {p : ByteArray} (h : okV a b c p = true) : Byt (vt a b c p) := by
  unfold okV at h
  simp only [Bool.and_eq_true, Bool.or_eq_true] at h
  obtain ⟨⟨⟨ha, hb⟩, hc⟩, hp⟩ := h
  have hd : ∀ {z : Int}, inM z = true → Byt (digF 6 z.toNat) := by
    intro z hz x hx
    obtain ⟨m, rfl, hm⟩ := inM_nat hz
    have := (digF_good 6 m (by simp; omega)).1
    rw [List.all_eq_true] at this
    have h2 := this x (by simpa using hx)
    simp [isd] at h2
    omega
  have h1 : ∀ {z : Int}, 0 ≤ z ∧ z ≤ 255 → Byt [z] := by intro z hz x hx; simp at hx; omega
  unfold vt
  refine ((((((h1 (by omega)).app (hd ha)).app (h1 (by omega))).app (hd hb)).app (h1 (by omega))).app (hd hc)).app ?_
  split
  · intro x hx; cases hx
  · exact (h1 (by omega)).app (sb_byt p)

end Go.Proofs.YtbopliahafkecaaGreatDoor.Ent
