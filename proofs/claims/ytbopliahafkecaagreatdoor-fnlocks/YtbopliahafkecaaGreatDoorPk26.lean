/- Texts in one: LmB, LmC, ModC, EfC, ModB, ModU, Lm2, LmU. -/
import Derived.Test.YtbopliahafkecaaGreatDoorPk25
import Derived.Test.YtbopliahafkecaaGreatDoorPk13
import Derived.Test.YtbopliahafkecaaGreatDoorBdr
import Derived.Test.YtbopliahafkecaaGreatDoorPk8
import Derived.Test.YtbopliahafkecaaGreatDoorPk16
import Derived.Lib.Builder
import Derived.Lib.UnsafeStr
import Derived.Shelf.Strings.Builder1
import Derived.Lib.Strings
import Derived.Lib.Bytealg
/- Chapter 17, the landed code: a builder of texts: what is written to it, and its text. -/
namespace Go.Proofs.YtbopliahafkecaaGreatDoor.Lm
open Go.RowKit Go.Proofs.YtbopliahafkecaaGreatDoor.Mem Go.Proofs.YtbopliahafkecaaGreatDoor.Laws Go.Proofs.YtbopliahafkecaaGreatDoor.Bytes Go.Proofs.YtbopliahafkecaaGreatDoor.Sha Go.Proofs.YtbopliahafkecaaGreatDoor.Ver Go.Proofs.YtbopliahafkecaaGreatDoor.Mod Go.Proofs.YtbopliahafkecaaGreatDoor.Ent Go.Proofs.YtbopliahafkecaaGreatDoor.He Go.Proofs.YtbopliahafkecaaGreatDoor.Lk
set_option linter.unusedVariables false
set_option linter.unusedSimpArgs false

/-- all blocks but b and rows of bytes stay -/
def Kq (b : Nat) (w w' : World) : Prop := ∀ (j : Nat) (o : Obj), w.heap[j]? = some o → j ≠ b → (∀ cs fr, o ≠ .cells cs 5 fr) → w'.heap[j]? = some o
theorem Kq.refl (b : Nat) (w : World) : Kq b w w := fun _ _ h _ _ => h
theorem Kq.trans {b : Nat} {u v w : World} (h : Kq b u v) (k : Kq b v w) : Kq b u w := fun j o ho hj hc => k j o (h j o ho hj hc) hj hc
theorem Kq.row {b : Nat} {w w' : World} (g : w.grownBy w' (some b)) : Kq b w w' := fun j o ho hj hc =>
  (g.block j (Array.getElem?_eq_some_iff.1 ho).1 (fun e => hj (by injection e))).trans ho
theorem Kq.new {b : Nat} {w w' : World} (h : Below w.heap.size w w') : Kq b w w' := fun j o ho hj hc => (h.block j (Array.getElem?_eq_some_iff.1 ho).1).trans ho
theorem Kq.own {b lo hi : Nat} {w w' : World} {v : Value} {cs : List Value} (h : Own w lo hi 5 v cs) (g : w.grownBy w' v.ownBlock) : Kq b w w' := fun j o ho hj hc => by
  refine (g.block j (Array.getElem?_eq_some_iff.1 ho).1 (fun e => ?_)).trans ho
  rcases h.1.2 with ⟨rfl, _⟩ | ⟨g9, cap, cur, rfl, _, hg, _⟩
  · simp [Value.ownBlock] at e
  · simp [Value.ownBlock] at e
    subst e
    rw [hg] at ho
    exact hc _ _ (Option.some.inj ho).symm
theorem Kq.lines {b : Nat} {w w' : World} {L : List (Nat × ByteArray)} (k : Kq b w w') (h : Lns w L) (hb : ∀ x ∈ L, x.1 ≠ b) : Lns w' L :=
  h.keep (fun x hx => by
    obtain ⟨v, hv⟩ := h.row x hx
    rw [hv]
    exact k _ _ hv (hb x hx) (fun cs fr e => by injection e with _ e _; exact absurd e (by decide)))

/-- a builder in block b that holds these bytes -/
def Bd (w : World) (lo b : Nat) (p : Value) (xs : List Int) : Prop :=
  lo ≤ b ∧ lo ≤ w.heap.size ∧ ∃ v, w.heap[b]? = some (.cells #[p, v] 86 (0, 0)) ∧ Own w lo w.heap.size 5 v (bs xs)
theorem Bd.new (w : World) : Bd (w.alloc (.cells #[.pointer none, .slice none 0 0] 86)) w.heap.size w.heap.size (.pointer none) [] :=
  ⟨Nat.le_refl _, by simp, _, heap_alloc_new w _, ⟨⟨rfl, Or.inl ⟨rfl, rfl⟩⟩, fun g hg => by simp [Value.ownBlock] at hg⟩⟩
theorem Bd.is {w : World} {lo b : Nat} {p : Value} {xs : List Int} (h : Bd w lo b p xs) (hp : p = .pointer none ∨ p = .pointer (some ⟨b, 0, none⟩)) : Lib.IsBuilder 86 5 lo b (bs xs) w := by
  obtain ⟨h1, h2, v, hr, ho⟩ := h
  have hne : v.ownBlock ≠ some b := Own.neRow ho hr (by decide)
  rcases hp with rfl | rfl
  · exact .inl ⟨h1, v, hr, ho.1, hne⟩
  · exact .inr ⟨h1, v, hr, ho.1, hne⟩

set_option maxHeartbeats 2000000 in
set_option maxRecDepth 1000000 in
theorem check_impl (w : World) (lo b : Nat) (p : Value) (xs : List Int) (h : Bd w lo b p xs) (hp : p = .pointer none ∨ p = .pointer (some ⟨b, 0, none⟩)) :
    Calls Tryz.prog 85 #[.pointer (some ⟨b, 0, none⟩)] w fun e w' => e = .returned (.tuple #[]) ∧ Bd w' lo b (.pointer (some ⟨b, 0, none⟩)) xs ∧ Below lo w w' ∧ Kq b w w' := by
  obtain ⟨h1, h2, v, hr, ho⟩ := h
  have HR : Hid (w.heap[b]? = some (.cells #[p, v] 86 (0, 0))) := hr
  have HO : Hid (Own w lo w.heap.size 5 v (bs xs)) := ho
  have c0 := Ke.c HR
  have hsz : (Tryz.prog.info? 86).map (·.size) = some 2 := by kernel_rfl
  obtain ⟨j, hj, hjs⟩ := Option.map_eq_some_iff.1 hsz
  have hjs0 : j.size ≠ 0 := by rw [hjs]; decide
  have hsh : w.shape? b = some (86, 2) := by simp [World.shape?, hr]
  have hlies : liesAt Tryz.prog Tryz.prog.depth 86 (2 / Tryz.prog.cellsOf 86) 0 86 1 = true := by kernel_rfl
  have t1 : Tryz.prog.underlying 84 = some (.pointer 86) := by kernel_rfl
  have t2 : Tryz.prog.underlying 125 = some .unsafePointer := by kernel_rfl
  clear hr ho
  rcases hp with rfl | rfl
  · go_enter Tryz.func85, Tryz.ntmps85
    go_wp2
    rw [Lib.run_to_unsafe w ⟨b, 0, none⟩ t1 t2 hj hjs0 hsh (Nat.zero_lt_succ 1)]
    simp only [Result.andThen]
    rw [Oper.upon_value]
    go_wp2
    rw [run_callFunc_extern Tryz.func109 (by kernel_rfl) (by kernel_rfl) (by kernel_rfl) (e := Extern.AbiNoEscape.same) (by kernel_rfl)]
    rw [Lib.run_noEscape]
    simp only [Result.andThen]
    rw [Oper.upon_value]
    go_wp2
    rw [Lib.run_from_unsafe w ⟨b, 0, none⟩ t2 t1 hj hsh hlies]
    simp only [Result.andThen]
    rw [Oper.upon_value]
    go_wp2_with (refine wpl_oneG rfl 84 _ _ rfl b 0 (.pointer (some ⟨b, 0, none⟩)) rfl rfl [.pointer none, v] 86 HR.out (Nat.le_of_ble_eq_true rfl) rfl rfl [.pointer (some ⟨b, 0, none⟩), v] rfl ?_)
    intro W1 r1 g1
    have HB : Hid (Below lo w W1) := belowGro (Below.refl _ _) g1 h2 (fun k e => by injection e with e; omega)
    have HK : Hid (Kq b w W1) := Kq.row g1
    have HO1 : Hid (Own W1 lo W1.heap.size 5 v (bs xs)) := Own.mono (Own.gro HO.out g1 (fun k hk e => Own.neRow HO.out HR.out (by decide) (hk.trans e.symm))) (Nat.le_refl _) g1.size
    have HR1 : Hid (W1.heap[b]? = some (.cells #[.pointer (some ⟨b, 0, none⟩), v] 86 (0, 0))) := r1
    have z1 := g1.size
    clear r1 g1
    go_wp2
    go_end0
    exact ⟨rfl, ⟨h1, by omega, v, HR1.out, HO1.out⟩, HB.out, HK.out⟩
  · go_enter Tryz.func85, Tryz.ntmps85
    go_wp2
    rw [Lib.run_neq_ptr_same w _ t1 hj]
    go_wp2
    go_end0
    exact ⟨rfl, ⟨h1, h2, v, HR.out, HO.out⟩, Below.refl _ _, Kq.refl _ _⟩

set_option maxHeartbeats 2000000 in
set_option maxRecDepth 1000000 in
theorem write_impl (w : World) (lo b : Nat) (p : Value) (xs : List Int) (s : ByteArray) (h : Bd w lo b p xs) (hp : p = .pointer none ∨ p = .pointer (some ⟨b, 0, none⟩)) (hl : xs.length + s.size ≤ 140737488355328) :
    Calls Tryz.prog 56 #[.pointer (some ⟨b, 0, none⟩), .string s] w fun e w' => e = .returned (.tuple #[.int .i64 s.size, .nilIface]) ∧ Bd w' lo b (.pointer (some ⟨b, 0, none⟩)) (xs ++ sb s) ∧ Below lo w w' ∧ Kq b w w' := by
  obtain ⟨i0, hi, hz0, hz1, hz2⟩ := info_parts info5
  have q := check_impl w lo b p xs h hp
  clear h hp
  go_enter Tryz.func56, Tryz.ntmps56
  go_wp2_with fail
  refine q.mono ?_
  rintro e W1 ⟨rfl, ⟨h1, h2, v, hr, ho⟩, hB, hK⟩
  have HB : Hid (Below lo w W1) := hB
  have HK : Hid (Kq b w W1) := hK
  have HR : Hid (W1.heap[b]? = some (.cells #[.pointer (some ⟨b, 0, none⟩), v] 86 (0, 0))) := hr
  have HO : Hid (Own W1 lo W1.heap.size 5 v (bs xs)) := ho
  have c0 := Ke.c HR
  clear hB hK hr ho q
  go_wp2_with (at_builtin; go_must (refine wpl_strG _ rfl (.tmp 12) (.tmp 13) 22 9 rfl 5 i0 Tryz.underlying22 Tryz.underlying9 hi hz0 hz1 hz2 lo _ xs rfl HO.out s rfl hl h2 ?_))
  intro v' W2 ho2 g2
  have HR2 : Hid (W2.heap[b]? = some (.cells #[.pointer (some ⟨b, 0, none⟩), v] 86 (0, 0))) := Ke.n HR HO g2
  have HB2 : Hid (Below lo w W2) := belowGro HB.out g2 h2 (fun k hk => Own.low HO.out (Nat.le_refl _) k hk)
  have HK2 : Hid (Kq b w W2) := HK.out.trans (Kq.own HO.out g2)
  have HO2 : Hid (Own W2 lo W2.heap.size 5 v' (bs (xs ++ sb s))) := ho2
  have z2 := g2.size
  have hv : ∃ ao L cap, v' = .slice ao L cap := by
    rcases ho2.1.2 with ⟨hv, _⟩ | ⟨g9, cap, cur, hv, _⟩
    · exact ⟨_, _, _, hv⟩
    · exact ⟨_, _, _, hv⟩
  obtain ⟨ao, L, cap, rfl⟩ := hv
  clear HR HO HB HK c0 ho2 g2
  go_wp2_with (refine wpl_oneG rfl 22 _ _ rfl b 1 (.slice ao L cap) rfl rfl [.pointer (some ⟨b, 0, none⟩), v] 86 HR2.out (Nat.le_of_ble_eq_true rfl) rfl rfl [.pointer (some ⟨b, 0, none⟩), .slice ao L cap] rfl ?_)
  intro W3 r3 g3
  have HB3 : Hid (Below lo w W3) := belowGro HB2.out g3 (by omega) (fun k e => by injection e with e; omega)
  have HK3 : Hid (Kq b w W3) := HK2.out.trans (Kq.row g3)
  have HO3 : Hid (Own W3 lo W3.heap.size 5 (.slice ao L cap) (bs (xs ++ sb s))) := Own.mono (Own.gro HO2.out g3 (fun k hk e => Own.neRow HO2.out HR2.out (by decide) (hk.trans e.symm))) (Nat.le_refl _) g3.size
  have HR3 : Hid (W3.heap[b]? = some (.cells #[.pointer (some ⟨b, 0, none⟩), .slice ao L cap] 86 (0, 0))) := r3
  have z3 := g3.size
  clear r3 g3 HR2 HO2 HB2 HK2
  go_wp2
  go_ret2
  exact ⟨rfl, ⟨h1, by omega, _, HR3.out, HO3.out⟩, HB3.out, HK3.out⟩

set_option maxHeartbeats 2000000 in
set_option maxRecDepth 1000000 in
theorem wbyte_impl (w : World) (lo b : Nat) (p : Value) (xs : List Int) (h : Bd w lo b p xs) (hp : p = .pointer none ∨ p = .pointer (some ⟨b, 0, none⟩)) (hl : xs.length + 1 ≤ 140737488355328) :
    Calls Tryz.prog 57 #[.pointer (some ⟨b, 0, none⟩), .int .u8 10] w fun e w' => e = .returned .nilIface ∧ Bd w' lo b (.pointer (some ⟨b, 0, none⟩)) (xs ++ [10]) ∧ Below lo w w' ∧ Kq b w w' := by
  obtain ⟨i0, hi, hz0, hz1, hz2⟩ := info_parts info5
  have q := check_impl w lo b p xs h hp
  clear h hp
  go_enter Tryz.func57, Tryz.ntmps57
  go_wp2_with fail
  refine q.mono ?_
  rintro e W1 ⟨rfl, ⟨h1, h2, v, hr, ho⟩, hB, hK⟩
  have HB : Hid (Below lo w W1) := hB
  have HK : Hid (Kq b w W1) := hK
  have HR : Hid (W1.heap[b]? = some (.cells #[.pointer (some ⟨b, 0, none⟩), v] 86 (0, 0))) := hr
  have HO : Hid (Own W1 lo W1.heap.size 5 v (bs xs)) := ho
  have c0 := Ke.c HR
  have c9 := Ke.a HR
  obtain ⟨A1, HA1, ba1, ya1, hSa, ra1⟩ := Ke.l1 W1 #[.int .u8 10] 5
  clear hB hK hr ho q
  have HRa : Hid (A1.heap[b]? = some (.cells #[.pointer (some ⟨b, 0, none⟩), v] 86 (0, 0))) := Ke.r HR ba1
  have HOa : Hid (Own A1 lo A1.heap.size 5 v (bs xs)) := Own.mono (Own.later HO.out ba1 (Nat.le_refl _)) (Nat.le_refl _) ba1.size
  have HBa : Hid (Below lo w A1) := HB.out.trans (ba1.mono h2)
  have HKa : Hid (Kq b w A1) := HK.out.trans (Kq.new ba1)
  have hsl : Sl A1 (.slice (some ⟨W1.heap.size, 0, none⟩) 1 1) [.int .u8 10] := by rw [← HA1.out]; exact Sl.one _ _ _
  have hl9 : (bs xs).length + ([.int .u8 10] : List Value).length ≤ maxLen := by rw [bs_len]; unfold maxLen; simp; omega
  have hl8 : ((bs xs).length + ([.int .u8 10] : List Value).length) * 1 ≤ 140737488355328 := by rw [bs_len]; simp; omega
  have h2a : lo ≤ A1.heap.size := by omega
  go_wp2_with (at_builtin; rw [HA1.out]; go_must (refine wpl_app _ rfl (.tmp 11) (.tmp 13) 22 rfl 5 i0 (.int .u8 0) 1 Tryz.underlying22 hi hz0 hz1 hz2 rfl lo _ (bs xs) rfl HOa.out _ rfl [.int .u8 10] hsl (one_byte _) hl9 hl8 h2a ?_))
  intro v' W2 ho2 hB2 g2
  have HR2 : Hid (W2.heap[b]? = some (.cells #[.pointer (some ⟨b, 0, none⟩), v] 86 (0, 0))) := Ke.n HRa HOa g2
  have HB2 : Hid (Below lo w W2) := HBa.out.trans hB2
  have HK2 : Hid (Kq b w W2) := HKa.out.trans (Kq.own HOa.out g2)
  have HO2 : Hid (Own W2 lo W2.heap.size 5 v' (bs (xs ++ [10]))) := by show Own _ _ _ _ _ _; rw [bs_app]; exact ho2
  have z2 := g2.size
  have hv : ∃ ao L cap, v' = .slice ao L cap := by
    rcases ho2.1.2 with ⟨hv, _⟩ | ⟨g9, cap, cur, hv, _⟩
    · exact ⟨_, _, _, hv⟩
    · exact ⟨_, _, _, hv⟩
  obtain ⟨ao, L, cap, rfl⟩ := hv
  clear HR HO HB HK c0 c9 ho2 g2 hB2 HRa HOa HBa HKa hsl HA1
  go_wp2_with (refine wpl_oneG rfl 22 _ _ rfl b 1 (.slice ao L cap) rfl rfl [.pointer (some ⟨b, 0, none⟩), v] 86 HR2.out (Nat.le_of_ble_eq_true rfl) rfl rfl [.pointer (some ⟨b, 0, none⟩), .slice ao L cap] rfl ?_)
  intro W3 r3 g3
  have HB3 : Hid (Below lo w W3) := belowGro HB2.out g3 (by omega) (fun k e => by injection e with e; omega)
  have HK3 : Hid (Kq b w W3) := HK2.out.trans (Kq.row g3)
  have HO3 : Hid (Own W3 lo W3.heap.size 5 (.slice ao L cap) (bs (xs ++ [10]))) := Own.mono (Own.gro HO2.out g3 (fun k hk e => Own.neRow HO2.out HR2.out (by decide) (hk.trans e.symm))) (Nat.le_refl _) g3.size
  have HR3 : Hid (W3.heap[b]? = some (.cells #[.pointer (some ⟨b, 0, none⟩), .slice ao L cap] 86 (0, 0))) := r3
  have z3 := g3.size
  clear r3 g3 HR2 HO2 HB2 HK2
  go_wp2
  go_ret
  exact ⟨rfl, ⟨h1, by omega, _, HR3.out, HO3.out⟩, HB3.out, HK3.out⟩

end Go.Proofs.YtbopliahafkecaaGreatDoor.Lm

/- Chapter 17, the landed code: the text of all lines. -/
namespace Go.Proofs.YtbopliahafkecaaGreatDoor.Lm
open Go.RowKit Go.Proofs.YtbopliahafkecaaGreatDoor.Mem Go.Proofs.YtbopliahafkecaaGreatDoor.Laws Go.Proofs.YtbopliahafkecaaGreatDoor.Bytes Go.Proofs.YtbopliahafkecaaGreatDoor.Sha Go.Proofs.YtbopliahafkecaaGreatDoor.Ver Go.Proofs.YtbopliahafkecaaGreatDoor.Mod Go.Proofs.YtbopliahafkecaaGreatDoor.Ent Go.Proofs.YtbopliahafkecaaGreatDoor.He Go.Proofs.YtbopliahafkecaaGreatDoor.Lk
set_option linter.unusedVariables false
set_option linter.unusedSimpArgs false

theorem byteCells_sb (s : ByteArray) : Lib.byteCells s.data.toList = bs (sb s) := by
  unfold Lib.byteCells bs sb
  rw [List.map_map]
  rfl
theorem string_impl (w : World) (lo b : Nat) (p : Value) (s : ByteArray) (h : Bd w lo b p (sb s)) (hp : p = .pointer none ∨ p = .pointer (some ⟨b, 0, none⟩)) :
    Calls Tryz.prog 58 #[.pointer (some ⟨b, 0, none⟩)] w fun e w' => e = .returned (.string s) ∧ Below lo w w' := by
  have hi := h.is hp
  rw [← byteCells_sb] at hi
  have := Any.Builder_String_any laysBdr extraBdr lo b s.data.toList w hi h.2.1
  refine this.mono ?_
  rintro e w' ⟨rfl, hb⟩
  exact ⟨rfl, hb⟩

/-- the text of lines: each with its end -/
def wh (L : List (Nat × ByteArray)) : List Int := (L.map (fun x => sb x.2 ++ [10])).flatten
theorem wh_cons (x : Nat × ByteArray) (L : List (Nat × ByteArray)) : wh (x :: L) = sb x.2 ++ [10] ++ wh L := by unfold wh; simp
theorem wh_byt : ∀ L : List (Nat × ByteArray), Byt (wh L) := by
  intro L
  induction L with
  | nil => intro x hx; cases hx
  | cons y r ih => rw [wh_cons]; exact ((sb_byt _).app (by intro x hx; simp at hx; omega)).app ih

/-- how far a line is from the end of the heap -/
def left (N : Nat) : Value → Nat
  | .pointer (some a) => N - a.block
  | _ => 0
theorem left_lt {w : World} {N : Nat} {x : Nat × ByteArray} {r : List (Nat × ByteArray)} (h : Lns w (x :: r)) (hN : x.1 < N) : left N (nx r) < left N (.pointer (some ⟨x.1, 0, none⟩)) := by
  cases r with
  | nil => show 0 < N - x.1; omega
  | cons y t =>
    have := h.2.1 y (by simp)
    show N - y.1 < N - x.1
    omega

set_option maxHeartbeats 2000000 in
set_option maxRecDepth 1000000 in
theorem whole_impl (w : World) (L : List (Nat × ByteArray)) (h : Lns w L) (hl : (wh L).length ≤ 140737488355328) :
    Calls Tryz.prog 29 #[nx L] w fun e w' => e = .returned (.string (Plain.txt (wh L))) ∧ Below w.heap.size w w' := by
  have HL : Hid (Lns w L) := h
  have HLT : Hid (∀ x ∈ L, x.1 < w.heap.size) := h.lt
  obtain ⟨W1, HW1, b1, y1, hS1, r1⟩ := Ke.l1 w #[.pointer none, .slice none 0 0] 86
  have HB1 : Hid (Bd W1 w.heap.size w.heap.size (.pointer none) []) := by rw [← HW1.out]; exact Bd.new w
  have HL1 : Hid (Lns W1 L) := HL.out.later b1
  have B1 : Hid (Below w.heap.size w W1) := b1
  clear h b1 hS1 r1 HL
  obtain ⟨T, hT⟩ : ∃ T, Plain.txt (wh L) = T := ⟨_, rfl⟩
  have HT : Hid (Plain.txt (wh L) = T) := hT
  rw [hT]
  clear hT
  obtain ⟨v0, hv0⟩ : ∃ v, nx L = v := ⟨_, rfl⟩
  have HV0 : Hid (nx L = v0) := hv0
  rw [hv0]
  clear hv0
  go_enter Tryz.func29, Tryz.ntmps29
  go_wp2
  rw [HW1.out]
  go_loopw [0] (fun v wr => ∃ (D R : List (Nat × ByteArray)) (p : Value), D ++ R = L ∧ v = nx R ∧ Hid (p = .pointer none ∨ p = .pointer (some ⟨w.heap.size, 0, none⟩)) ∧ Hid (Lns wr R) ∧ Hid (Bd wr w.heap.size w.heap.size p (wh D)) ∧ Hid (Below w.heap.size w wr)) (fun v wr => left w.heap.size v)
  case atStart => exact ⟨[], L, _, rfl, HV0.out.symm, .inl rfl, HL1.out, HB1.out, B1.out⟩
  case round =>
    obtain ⟨D, R, p, hDR, rfl, HP, HR, HD, HB⟩ := hrel
    clear HL1 HB1 B1 HW1
    cases R with
    | nil =>
      have hw : wh D = sb T := by
        rw [← HT.out, sb_txtv (wh_byt L), ← hDR, List.append_nil]
      have q := string_impl wr w.heap.size w.heap.size p T (by rw [← hw]; exact HD.out) HP.out
      clear hw HD HP HR hDR HV0 HLT HT
      dsimp only [nx]
      go_wp2_with fail
      refine q.mono ?_
      rintro e W2 ⟨rfl, b2⟩
      have B2 : Hid (Below w.heap.size w W2) := HB.out.trans b2
      clear q b2 HB
      go_wp2
      go_ret
      exact ⟨rfl, B2.out⟩
    | cons x r =>
      obtain ⟨b, t⟩ := x
      have hlt : b < w.heap.size := HLT.out (b, t) (by rw [← hDR]; simp)
      have hlen : (wh D).length + t.size + 1 ≤ 140737488355328 := by
        have h9 : wh L = wh D ++ (sb t ++ [10] ++ wh r) := by rw [← hDR, ← wh_cons (b, t) r]; unfold wh; rw [List.map_append, List.flatten_append]
        rw [h9] at hl
        simp only [List.length_append, sb_len, List.length_singleton] at hl
        omega
      have hne : ∀ y ∈ (b, t) :: r, y.1 ≠ w.heap.size := fun y hy => by have := HLT.out y (by rw [← hDR]; simp only [List.mem_append]; exact .inr hy); omega
      have HN : Hid (∀ y ∈ (b, t) :: r, y.1 ≠ w.heap.size) := hne
      have HM : Hid (left w.heap.size (nx r) < left w.heap.size (.pointer (some ⟨b, 0, none⟩))) := left_lt HR.out hlt
      have rb : Hid (wr.heap[b]? = some (.cells #[.string t, nx r] 55 (0, 0))) := HR.out.1
      have cb := Ke.c rb
      have q1 := write_impl wr w.heap.size w.heap.size p (wh D) t HD.out HP.out (by omega)
      have hDR2 : D ++ [(b, t)] ++ r = L := by rw [← hDR]; simp
      have HE : Hid (wh D ++ sb t ++ [10] = wh (D ++ [(b, t)])) := by show _ = _; unfold wh; rw [List.map_append, List.flatten_append]; simp
      clear hne hl
      dsimp only [nx]
      go_wp2_with fail
      refine q1.mono ?_
      rintro e W2 ⟨rfl, d2, b2, k2⟩
      have L2 : Hid (Lns W2 ((b, t) :: r)) := k2.lines HR.out HN.out
      have D2 : Hid (Bd W2 w.heap.size w.heap.size (.pointer (some ⟨w.heap.size, 0, none⟩)) (wh D ++ sb t)) := d2
      have B2 : Hid (Below w.heap.size w W2) := HB.out.trans b2
      clear q1 d2 b2 k2 HR HD HB HP rb cb
      have q2 := wbyte_impl W2 w.heap.size w.heap.size _ (wh D ++ sb t) D2.out (.inr rfl) (by rw [List.length_append, sb_len]; omega)
      rw [HE.out] at q2
      go_wp2_with fail
      refine q2.mono ?_
      rintro e W3 ⟨rfl, d3, b3, k3⟩
      have L3 : Hid (Lns W3 ((b, t) :: r)) := k3.lines L2.out HN.out
      have D3 : Hid (Bd W3 w.heap.size w.heap.size (.pointer (some ⟨w.heap.size, 0, none⟩)) (wh (D ++ [(b, t)]))) := d3
      have B3 : Hid (Below w.heap.size w W3) := B2.out.trans b3
      have rb : Hid (W3.heap[b]? = some (.cells #[.string t, nx r] 55 (0, 0))) := L3.out.1
      have cb := Ke.c rb
      have HR3 : Hid (Lns W3 r) := L3.out.2.2
      clear q2 d3 b3 k3 L2 D2 B2
      obtain ⟨v1, hv1⟩ : ∃ v, nx r = v := ⟨_, rfl⟩
      have HV1 : Hid (nx r = v1) := hv1
      rw [hv1] at cb
      clear hv1 rb
      go_wp2
      go_roundw
      case rel => exact ⟨D ++ [(b, t)], r, _, hDR2, HV1.out.symm, .inr rfl, HR3.out, D3.out, B3.out⟩
      case measure => rw [← HV1.out]; exact HM.out

end Go.Proofs.YtbopliahafkecaaGreatDoor.Lm

/- Chapter 4, the landed code: what the library cuts off a text: what stands behind the first /, a v ahead. -/
namespace Go.Proofs.YtbopliahafkecaaGreatDoor.Mod
open Go.RowKit Go.Proofs.YtbopliahafkecaaGreatDoor.Mem Go.Proofs.YtbopliahafkecaaGreatDoor.Laws Go.Proofs.YtbopliahafkecaaGreatDoor.Bytes Go.Proofs.YtbopliahafkecaaGreatDoor.Sha Go.Proofs.YtbopliahafkecaaGreatDoor.Ver
set_option linter.unusedVariables false
set_option linter.unusedSimpArgs false

/-- the place of the first /, or -1; what stands before it and behind -/
def slash (t : ByteArray) : Int := match (sb t).findIdx? (fun c => c == 47) with
  | some i => (i : Int)
  | none => -1
def cutS (t : ByteArray) : ByteArray × ByteArray := match (sb t).findIdx? (fun c => c == 47) with
  | some i => (t.extract 0 i, t.extract (i + 1) t.size)
  | none => (t, ⟨#[]⟩)
theorem indexByte_slash : ∀ l : List UInt8, Lib.indexByte l 47 = match (l.map fun b => (b.toNat : Int)).findIdx? (fun c => c == 47) with
    | some i => (i : Int)
    | none => -1 := by
  intro l
  induction l with
  | nil => rfl
  | cons b r ih =>
    by_cases h : b = 47
    · subst h; simp [Lib.indexByte, List.findIdx?_cons]
    · have h2 : ((b.toNat : Int) == 47) = false := by
        rw [beq_eq_false_iff_ne]
        intro h3
        apply h
        apply UInt8.toNat_inj.1
        have : (47 : UInt8).toNat = 47 := rfl
        omega
      have h4 : (b == 47) = false := by simpa using h
      rw [List.map_cons, List.findIdx?_cons, h2]
      unfold Lib.indexByte
      simp only [h4, Bool.false_eq_true, if_false, ih]
      cases (r.map fun b => (b.toNat : Int)).findIdx? (fun c => c == 47) with
      | none => simp
      | some i => simp

set_option maxRecDepth 1000000 in
set_option maxHeartbeats 1000000 in
theorem ib_impl (w : World) (s : ByteArray) : Calls Tryz.prog 111 #[.string s, .int .u8 47] w fun e w' => e = .returned (.int .i64 (slash s)) ∧ w' = w := by
  have HD : Hid (Lib.indexByte s.data.toList (47 : Int).toNat.toUInt8 = slash s) := indexByte_slash s.data.toList
  go_enter Tryz.func111, Tryz.ntmps111
  go_wp2
  rw [run_callFunc_extern Tryz.func132 (by kernel_rfl) (by kernel_rfl) (by kernel_rfl) (e := Extern.BytealgIndexByte.indexByte) (by kernel_rfl), Lib.run_indexByteString, HD.out]
  simp only [Result.andThen]
  rw [Oper.upon_value]
  go_wp2
  go_ret
  exact ⟨rfl, rfl⟩

set_option maxRecDepth 1000000 in
set_option maxHeartbeats 2000000 in
theorem ix_impl (w : World) (s : ByteArray) : Calls Tryz.prog 114 #[.string s, .string ⟨#[47]⟩] w fun e w' => e = .returned (.int .i64 (slash s)) ∧ w' = w := by
  have q := ib_impl w s
  by_cases h : s.toList = [47]
  · have h1 : ([47] == s.toList) = true := by simp [h]
    have HD : Hid (slash s = 0) := by
      show _ = _
      unfold slash
      rw [show sb s = [47] by unfold sb; rw [← ByteArray.toList_eq, h]; rfl]
      rfl
    clear h
    go_enter Tryz.func114, Tryz.ntmps114
    go_wp2_with (go_at_call 111; refine q.mono ?_; rintro e w' ⟨rfl, rfl⟩)
    go_ret
    exact ⟨by rw [HD.out]; rfl, rfl⟩
  · have h1 : ([47] == s.toList) = false := by
      rw [beq_eq_false_iff_ne]
      exact fun e => h e.symm
    clear h
    obtain ⟨d, hd⟩ : ∃ d, slash s = d := ⟨_, rfl⟩
    rw [hd] at q ⊢
    clear hd
    go_enter Tryz.func114, Tryz.ntmps114
    go_wp2_with (go_at_call 111; refine q.mono ?_; rintro e w' ⟨rfl, rfl⟩)
    go_ret
    exact ⟨rfl, rfl⟩

theorem slash_some {s : ByteArray} {i : Nat} (h : (sb s).findIdx? (fun c => c == 47) = some i) : i < s.size := by
  have := (List.findIdx?_eq_some_iff_getElem.1 h).1
  rw [sb_len] at this
  exact this

set_option maxRecDepth 1000000 in
set_option maxHeartbeats 1000000 in
theorem cutl_impl (w : World) (s : ByteArray) (hs : s.size ≤ 1000000000000) : Calls Tryz.prog 91 #[.string s, .string ⟨#[47]⟩] w fun e w' => e = .returned (.tuple #[.string (cutS s).1, .string (cutS s).2, .bool (decide (0 ≤ slash s))]) ∧ Below w.heap.size w w' := by
  have q := ix_impl w s
  cases hd : (sb s).findIdx? (fun c => c == 47) with
  | none =>
    have e1 : slash s = -1 := by unfold slash; rw [hd]
    have HC : Hid ((cutS s).1 = s ∧ (cutS s).2 = ⟨#[]⟩) := by show _ ∧ _; unfold cutS; rw [hd]; exact ⟨rfl, rfl⟩
    rw [e1] at q
    have HE : Hid (decide (0 ≤ slash s) = false) := by show _ = _; rw [e1]; rfl
    clear e1 hd
    go_enter Tryz.func91, Tryz.ntmps91
    go_wp2_with (go_at_call 114; refine q.mono ?_; rintro e w' ⟨rfl, rfl⟩)
    go_ret3
    exact ⟨by rw [HC.out.1, HC.out.2, HE.out]; rfl, Below.refl _ _⟩
  | some i =>
    have e1 : slash s = (i : Int) := by unfold slash; rw [hd]
    have hi := slash_some hd
    have HC : Hid ((cutS s).1 = s.extract 0 i ∧ (cutS s).2 = s.extract (i + 1) s.size) := by show _ ∧ _; unfold cutS; rw [hd]; exact ⟨rfl, rfl⟩
    rw [e1] at q
    have HE : Hid (decide (0 ≤ slash s) = true) := by show _ = _; rw [e1]; simp
    clear e1 hd
    have h0 : (0 : Int) ≤ (i : Int) := by omega
    have h1 : i ≤ s.size := by omega
    have h2 : i + 1 ≤ s.size := by omega
    go_enter Tryz.func91, Tryz.ntmps91
    go_wp2_with (go_at_call 114; refine q.mono ?_; rintro e w' ⟨rfl, rfl⟩)
    go_quiet (fail)
    go_wp2
    go_ret3
    exact ⟨by rw [HC.out.1, HC.out.2, HE.out]; rfl, ⟨rfl, rfl, rfl, Nat.le_refl _, fun _ _ => rfl⟩⟩

set_option maxRecDepth 1000000 in
set_option maxHeartbeats 1000000 in
theorem cut_impl (w : World) (s : ByteArray) (hs : s.size ≤ 1000000000000) : Calls Tryz.prog 66 #[.string s, .string ⟨#[47]⟩] w fun e w' => e = .returned (.tuple #[.string (cutS s).1, .string (cutS s).2, .bool (decide (0 ≤ slash s))]) ∧ Below w.heap.size w w' := by
  have q := cutl_impl w s hs
  obtain ⟨x, hx⟩ : ∃ x, (cutS s).1 = x := ⟨_, rfl⟩
  obtain ⟨y, hy⟩ : ∃ x, (cutS s).2 = x := ⟨_, rfl⟩
  obtain ⟨z, hz⟩ : ∃ x, decide (0 ≤ slash s) = x := ⟨_, rfl⟩
  rw [hx, hy, hz] at q ⊢
  clear hx hy hz
  go_enter Tryz.func66, Tryz.ntmps66
  go_wp2_with (go_at_call 91; refine q.mono ?_; rintro e w' ⟨rfl, b1⟩)
  go_ret3
  exact ⟨rfl, b1⟩

/-- does the text begin with a v? -/
def vAt (s : ByteArray) : Bool := decide ((sb s).head? = some 118)
def vOff (s : ByteArray) : ByteArray := if vAt s = true then s.extract 1 s.size else s

theorem vAt_nil {s : ByteArray} (h : s.size = 0) : vAt s = false := by
  have := sb_len s
  cases hb : sb s with
  | nil => unfold vAt; rw [hb]; rfl
  | cons x y => rw [hb] at this; simp at this; omega
theorem vAt_pos {s : ByteArray} (h : 0 < s.size) : ((s.extract 0 1).toList == [118]) = vAt s := by
  have hg := sb_get s 0 h
  rw [ByteArray.toList_eq, ByteArray.data_extract, Array.toList_extract]
  unfold vAt
  have hl : 0 < s.data.toList.length := by simpa using h
  cases hd : s.data.toList with
  | nil => rw [hd] at hl; simp at hl
  | cons x y =>
    have hs : sb s = (x.toNat : Int) :: y.map fun b => (b.toNat : Int) := by unfold sb; rw [hd]; rfl
    rw [hs]
    simp only [List.head?_cons, Option.some.injEq]
    rw [Bool.eq_iff_iff]
    simp
    constructor
    · rintro rfl; rfl
    · intro h3
      apply UInt8.toNat_inj.1
      have : (118 : UInt8).toNat = 118 := rfl
      omega

set_option maxRecDepth 1000000 in
set_option maxHeartbeats 1000000 in
theorem hasp_impl (w : World) (s : ByteArray) (hs : s.size ≤ 1000000000000) : Calls Tryz.prog 113 #[.string s, .string ⟨#[118]⟩] w fun e w' => e = .returned (.bool (vAt s)) ∧ w' = w := by
  by_cases h0 : s.size = 0
  · have HN : Hid (vAt s = false) := vAt_nil h0
    have h1 : ¬ 1 ≤ s.size := by omega
    have h2 : s.size < 1 := by omega
    clear h0
    go_enter Tryz.func113, Tryz.ntmps113
    go_wp2
    go_ret
    exact ⟨by rw [HN.out]; rfl, rfl⟩
  · have h1 : 1 ≤ s.size := by omega
    have hv := vAt_pos (s := s) (by omega)
    obtain ⟨x, hx⟩ : ∃ x, vAt s = x := ⟨_, rfl⟩
    rw [hx] at hv ⊢
    clear hx h0
    go_enter Tryz.func113, Tryz.ntmps113
    go_wp2
    go_ret
    exact ⟨by simp [hv], rfl⟩

set_option maxRecDepth 1000000 in
set_option maxHeartbeats 1000000 in
theorem cutp_impl (w : World) (s : ByteArray) (hs : s.size ≤ 1000000000000) : Calls Tryz.prog 65 #[.string s, .string ⟨#[118]⟩] w fun e w' => e = .returned (.tuple #[.string (vOff s), .bool (vAt s)]) ∧ w' = w := by
  have q := hasp_impl w s hs
  cases hx : vAt s with
  | false =>
    have HV : Hid (vOff s = s) := by show _ = _; unfold vOff; rw [hx]; rfl
    rw [hx] at q
    clear hx
    go_enter Tryz.func65, Tryz.ntmps65
    go_wp2_with (first | (go_at_call 113; refine q.mono ?_; rintro e w' ⟨rfl, rfl⟩) | go_in)
    go_ret2
    exact ⟨by rw [HV.out]; rfl, rfl⟩
  | true =>
    have h1 : 1 ≤ s.size := by
      by_cases h0 : s.size = 0
      · rw [vAt_nil h0] at hx; cases hx
      · omega
    have HV : Hid (vOff s = s.extract 1 s.size) := by show _ = _; unfold vOff; rw [hx]; rfl
    rw [hx] at q
    clear hx
    go_enter Tryz.func65, Tryz.ntmps65
    go_wp2_with (first | (go_at_call 113; refine q.mono ?_; rintro e w' ⟨rfl, rfl⟩) | go_in)
    go_ret2
    exact ⟨by rw [HV.out]; rfl, rfl⟩

end Go.Proofs.YtbopliahafkecaaGreatDoor.Mod

/- Chapter 5, the landed code: a text cut at the first @. -/
namespace Go.Proofs.YtbopliahafkecaaGreatDoor.Mod
open Go.RowKit Go.Proofs.YtbopliahafkecaaGreatDoor.Mem Go.Proofs.YtbopliahafkecaaGreatDoor.Laws Go.Proofs.YtbopliahafkecaaGreatDoor.Bytes Go.Proofs.YtbopliahafkecaaGreatDoor.Sha Go.Proofs.YtbopliahafkecaaGreatDoor.Ver
set_option linter.unusedVariables false
set_option linter.unusedSimpArgs false

/-- the place of the first @, or -1; what stands before it and behind -/
def ats (t : ByteArray) : Int := match (sb t).findIdx? (fun c => c == 64) with
  | some i => (i : Int)
  | none => -1
def cutA (t : ByteArray) : ByteArray × ByteArray := match (sb t).findIdx? (fun c => c == 64) with
  | some i => (t.extract 0 i, t.extract (i + 1) t.size)
  | none => (t, ⟨#[]⟩)
theorem indexByte_ats : ∀ l : List UInt8, Lib.indexByte l 64 = match (l.map fun b => (b.toNat : Int)).findIdx? (fun c => c == 64) with
    | some i => (i : Int)
    | none => -1 := by
  intro l
  induction l with
  | nil => rfl
  | cons b r ih =>
    by_cases h : b = 64
    · subst h; simp [Lib.indexByte, List.findIdx?_cons]
    · have h2 : ((b.toNat : Int) == 64) = false := by
        rw [beq_eq_false_iff_ne]
        intro h3
        apply h
        apply UInt8.toNat_inj.1
        have : (64 : UInt8).toNat = 64 := rfl
        omega
      have h4 : (b == 64) = false := by simpa using h
      rw [List.map_cons, List.findIdx?_cons, h2]
      unfold Lib.indexByte
      simp only [h4, Bool.false_eq_true, if_false, ih]
      cases (r.map fun b => (b.toNat : Int)).findIdx? (fun c => c == 64) with
      | none => simp
      | some i => simp

set_option maxRecDepth 1000000 in
set_option maxHeartbeats 1000000 in
theorem ibA_impl (w : World) (s : ByteArray) : Calls Tryz.prog 111 #[.string s, .int .u8 64] w fun e w' => e = .returned (.int .i64 (ats s)) ∧ w' = w := by
  have HD : Hid (Lib.indexByte s.data.toList (64 : Int).toNat.toUInt8 = ats s) := indexByte_ats s.data.toList
  go_enter Tryz.func111, Tryz.ntmps111
  go_wp2
  rw [run_callFunc_extern Tryz.func132 (by kernel_rfl) (by kernel_rfl) (by kernel_rfl) (e := Extern.BytealgIndexByte.indexByte) (by kernel_rfl), Lib.run_indexByteString, HD.out]
  simp only [Result.andThen]
  rw [Oper.upon_value]
  go_wp2
  go_ret
  exact ⟨rfl, rfl⟩

set_option maxRecDepth 1000000 in
set_option maxHeartbeats 2000000 in
theorem ixA_impl (w : World) (s : ByteArray) : Calls Tryz.prog 114 #[.string s, .string ⟨#[64]⟩] w fun e w' => e = .returned (.int .i64 (ats s)) ∧ w' = w := by
  have q := ibA_impl w s
  by_cases h : s.toList = [64]
  · have h1 : ([64] == s.toList) = true := by simp [h]
    have HD : Hid (ats s = 0) := by
      show _ = _
      unfold ats
      rw [show sb s = [64] by unfold sb; rw [← ByteArray.toList_eq, h]; rfl]
      rfl
    clear h
    go_enter Tryz.func114, Tryz.ntmps114
    go_wp2_with (go_at_call 111; refine q.mono ?_; rintro e w' ⟨rfl, rfl⟩)
    go_ret
    exact ⟨by rw [HD.out]; rfl, rfl⟩
  · have h1 : ([64] == s.toList) = false := by
      rw [beq_eq_false_iff_ne]
      exact fun e => h e.symm
    clear h
    obtain ⟨d, hd⟩ : ∃ d, ats s = d := ⟨_, rfl⟩
    rw [hd] at q ⊢
    clear hd
    go_enter Tryz.func114, Tryz.ntmps114
    go_wp2_with (go_at_call 111; refine q.mono ?_; rintro e w' ⟨rfl, rfl⟩)
    go_ret
    exact ⟨rfl, rfl⟩

theorem ats_some {s : ByteArray} {i : Nat} (h : (sb s).findIdx? (fun c => c == 64) = some i) : i < s.size := by
  have := (List.findIdx?_eq_some_iff_getElem.1 h).1
  rw [sb_len] at this
  exact this

set_option maxRecDepth 1000000 in
set_option maxHeartbeats 1000000 in
theorem cutlA_impl (w : World) (s : ByteArray) (hs : s.size ≤ 1000000000000) : Calls Tryz.prog 91 #[.string s, .string ⟨#[64]⟩] w fun e w' => e = .returned (.tuple #[.string (cutA s).1, .string (cutA s).2, .bool (decide (0 ≤ ats s))]) ∧ Below w.heap.size w w' := by
  have q := ixA_impl w s
  cases hd : (sb s).findIdx? (fun c => c == 64) with
  | none =>
    have e1 : ats s = -1 := by unfold ats; rw [hd]
    have HC : Hid ((cutA s).1 = s ∧ (cutA s).2 = ⟨#[]⟩) := by show _ ∧ _; unfold cutA; rw [hd]; exact ⟨rfl, rfl⟩
    rw [e1] at q
    have HE : Hid (decide (0 ≤ ats s) = false) := by show _ = _; rw [e1]; rfl
    clear e1 hd
    go_enter Tryz.func91, Tryz.ntmps91
    go_wp2_with (go_at_call 114; refine q.mono ?_; rintro e w' ⟨rfl, rfl⟩)
    go_ret3
    exact ⟨by rw [HC.out.1, HC.out.2, HE.out]; rfl, Below.refl _ _⟩
  | some i =>
    have e1 : ats s = (i : Int) := by unfold ats; rw [hd]
    have hi := ats_some hd
    have HC : Hid ((cutA s).1 = s.extract 0 i ∧ (cutA s).2 = s.extract (i + 1) s.size) := by show _ ∧ _; unfold cutA; rw [hd]; exact ⟨rfl, rfl⟩
    rw [e1] at q
    have HE : Hid (decide (0 ≤ ats s) = true) := by show _ = _; rw [e1]; simp
    clear e1 hd
    have h0 : (0 : Int) ≤ (i : Int) := by omega
    have h1 : i ≤ s.size := by omega
    have h2 : i + 1 ≤ s.size := by omega
    go_enter Tryz.func91, Tryz.ntmps91
    go_wp2_with (go_at_call 114; refine q.mono ?_; rintro e w' ⟨rfl, rfl⟩)
    go_quiet (fail)
    go_wp2
    go_ret3
    exact ⟨by rw [HC.out.1, HC.out.2, HE.out]; rfl, ⟨rfl, rfl, rfl, Nat.le_refl _, fun _ _ => rfl⟩⟩

set_option maxRecDepth 1000000 in
set_option maxHeartbeats 1000000 in
theorem cutA_impl (w : World) (s : ByteArray) (hs : s.size ≤ 1000000000000) : Calls Tryz.prog 66 #[.string s, .string ⟨#[64]⟩] w fun e w' => e = .returned (.tuple #[.string (cutA s).1, .string (cutA s).2, .bool (decide (0 ≤ ats s))]) ∧ Below w.heap.size w w' := by
  have q := cutlA_impl w s hs
  obtain ⟨x, hx⟩ : ∃ x, (cutA s).1 = x := ⟨_, rfl⟩
  obtain ⟨y, hy⟩ : ∃ x, (cutA s).2 = x := ⟨_, rfl⟩
  obtain ⟨z, hz⟩ : ∃ x, decide (0 ≤ ats s) = x := ⟨_, rfl⟩
  rw [hx, hy, hz] at q ⊢
  clear hx hy hz
  go_enter Tryz.func66, Tryz.ntmps66
  go_wp2_with (go_at_call 91; refine q.mono ?_; rintro e w' ⟨rfl, b1⟩)
  go_ret3
  exact ⟨rfl, b1⟩

end Go.Proofs.YtbopliahafkecaaGreatDoor.Mod

/- Chapter 4, the landed code: a part of a path. -/
namespace Go.Proofs.YtbopliahafkecaaGreatDoor.Mod
open Go.RowKit Go.Proofs.YtbopliahafkecaaGreatDoor.Mem Go.Proofs.YtbopliahafkecaaGreatDoor.Laws Go.Proofs.YtbopliahafkecaaGreatDoor.Bytes Go.Proofs.YtbopliahafkecaaGreatDoor.Sha Go.Proofs.YtbopliahafkecaaGreatDoor.Ver
set_option linter.unusedVariables false
set_option linter.unusedSimpArgs false

set_option maxRecDepth 1000000 in
set_option maxHeartbeats 1000000 in
theorem begins_impl (w : World) (r : Int) : Calls Tryz.prog 126 #[.int .i32 r] w fun e w' => e = .returned (.bool (plain4 r)) ∧ w' = w := by
  have HD : Hid (plain4 r = (decide (97 ≤ r ∧ r ≤ 122) || isd r)) := rfl
  have q := digit_impl w r
  obtain ⟨d, hd⟩ : ∃ d, isd r = d := ⟨_, rfl⟩
  rw [hd] at q HD
  clear hd
  by_cases h1 : 97 ≤ r
  · by_cases h2 : r ≤ 122
    · have HN : Hid (plain4 r = true) := by show _ = _; rw [HD.out]; simp [h1, h2]
      go_enter Tryz.func126, Tryz.ntmps126
      go_wp2
      go_ret
      exact ⟨by rw [HN.out]; rfl, rfl⟩
    · have HN : Hid (plain4 r = d) := by show _ = _; rw [HD.out]; simp [h2]
      go_enter Tryz.func126, Tryz.ntmps126
      go_wp2_with (go_at_call 115; refine q.mono ?_; rintro e w' ⟨rfl, rfl⟩)
      go_ret
      exact ⟨by rw [HN.out]; rfl, rfl⟩
  · have HN : Hid (plain4 r = d) := by show _ = _; rw [HD.out]; simp [h1]
    go_enter Tryz.func126, Tryz.ntmps126
    go_wp2_with (go_at_call 115; refine q.mono ?_; rintro e w' ⟨rfl, rfl⟩)
    go_ret
    exact ⟨by rw [HN.out]; rfl, rfl⟩

set_option maxRecDepth 1000000 in
set_option maxHeartbeats 2000000 in
theorem part_impl4 (w : World) (s : ByteArray) (hs : s.size ≤ 1000000000000) :
    Calls Tryz.prog 105 #[.string s] w fun e w' => e = .returned (.bool (part4 (sb s))) ∧ Below w.heap.size w w' := by
  have HP : Hid (part4 (sb s) = (signs4 0 (sb s) && decide (1 ≤ s.size ∧ s.size ≤ 20))) := by show _ = _; unfold part4; rw [sb_len]
  by_cases h0 : s.size = 0
  · have he : s.toList.isEmpty = true := by rw [toList_empty]; exact decide_eq_true h0
    have HN : Hid (part4 (sb s) = false) := by show _ = _; rw [HP.out]; simp [h0]
    clear h0 HP
    go_enter Tryz.func105, Tryz.ntmps105
    go_wp2
    go_ret
    exact ⟨by rw [HN.out]; rfl, Below.refl _ _⟩
  have he : s.toList.isEmpty = false := by rw [toList_empty]; exact decide_eq_false h0
  by_cases h20 : 20 < s.size
  · have d20 : decide ((20 : Int) < (s.size : Int)) = true := by simp; omega
    have HN : Hid (part4 (sb s) = false) := by show _ = _; rw [HP.out, decide_eq_false (by omega), Bool.and_false]
    clear h0 HP
    go_enter Tryz.func105, Tryz.ntmps105
    go_wp2
    go_ret
    exact ⟨by rw [HN.out]; rfl, Below.refl _ _⟩
  have d20 : decide ((20 : Int) < (s.size : Int)) = false := by simp; omega
  have HQ : Hid (part4 (sb s) = signs4 0 (sb s)) := by show _ = _; rw [HP.out, decide_eq_true (by omega), Bool.and_true]
  clear HP h0
  go_enter Tryz.func105, Tryz.ntmps105
  go_wp2
  clear he d20
  go_loopw [] (fun wr => ∃ k : Nat, k ≤ s.size ∧ Hid (signs4 0 ((sb s).take k) = true) ∧ wr = w.iter s k) (fun wr => s.size - wr.iterPos w.heap.size)
  case atStart => exact ⟨0, Nat.zero_le _, rfl, rfl⟩
  case round =>
    obtain ⟨k, hk, HA, rfl⟩ := hrel
    have hB : Below w.heap.size w (w.iter s k) := (Below.refl _ _).alloc (Nat.le_refl _) _
    by_cases hp : k < s.size
    · have hg := sb_get s k hp
      by_cases ha : (s[k]'hp).toNat < 128
      · have hnx : ∀ ty, (Instr.next (.pointer (some ⟨w.heap.size, 0, none⟩)) true ty).run Tryz.prog (w.iter s k) = _ := fun ty => run_next_ascii w s k ty hp ha
        have hB1 : Below w.heap.size w (w.iter s (k + 1)) := (Below.refl _ _).alloc (Nat.le_refl _) _
        have HS : Hid (signs4 0 ((sb s).take (k + 1)) = (signs4 0 ((sb s).take k) && sign4 k (s[k].toNat : Int))) := signs4_step hg
        have HB : Hid (sign4 k (s[k].toNat : Int) = false → signs4 0 (sb s) = false) := signs4_bad hg
        have q := begins_impl (w.iter s (k + 1)) (s[k].toNat : Int)
        obtain ⟨c, hc⟩ : ∃ c : Int, (s[k].toNat : Int) = c := ⟨_, rfl⟩
        rw [hc] at q HS HB hnx
        obtain ⟨x, hx⟩ : ∃ x, plain4 c = x := ⟨_, rfl⟩
        rw [hx] at q
        have HX : Hid (plain4 c = x) := hx
        clear hx hg hc
        cases x
        · by_cases h0 : k = 0
          · have d0 : ((k : Int) == 0) = true := by simp; omega
            have HN : Hid (part4 (sb s) = false) := by
              show _ = _
              rw [HQ.out, HB.out (by unfold sign4; rw [HX.out]; simp [h0])]
            clear h0
            go_wp2_with (go_at_call 126; refine q.mono ?_; rintro e w' ⟨rfl, rfl⟩)
            go_ret
            exact ⟨by rw [HN.out]; rfl, hB1⟩
          · have d0 : ((k : Int) == 0) = false := by simp; omega
            by_cases h1 : c = 45
            · have d1 : (c != 45) = false := by simpa using h1
              have HN : Hid (signs4 0 ((sb s).take (k + 1)) = true) := by show _ = _; rw [HS.out, HA.out]; unfold sign4; simp [h0, h1]
              clear h0 h1 HX HS HB
              go_wp2_with (go_at_call 126; refine q.mono ?_; rintro e w' ⟨rfl, rfl⟩)
              go_roundw
              case rel => exact ⟨k + 1, by omega, HN, rfl⟩
              case measure => simp; omega
            have d1 : (c != 45) = true := by simpa using h1
            by_cases h2 : c = 46
            · have d2 : (c != 46) = false := by simpa using h2
              have HN : Hid (signs4 0 ((sb s).take (k + 1)) = true) := by show _ = _; rw [HS.out, HA.out]; unfold sign4; simp [h0, h2]
              clear h0 h1 h2 HX HS HB
              go_wp2_with (go_at_call 126; refine q.mono ?_; rintro e w' ⟨rfl, rfl⟩)
              go_roundw
              case rel => exact ⟨k + 1, by omega, HN, rfl⟩
              case measure => simp; omega
            have d2 : (c != 46) = true := by simpa using h2
            by_cases h3 : c = 95
            · have d3 : (c != 95) = false := by simpa using h3
              have HN : Hid (signs4 0 ((sb s).take (k + 1)) = true) := by show _ = _; rw [HS.out, HA.out]; unfold sign4; simp [h0, h3]
              clear h0 h1 h2 h3 HX HS HB
              go_wp2_with (go_at_call 126; refine q.mono ?_; rintro e w' ⟨rfl, rfl⟩)
              go_roundw
              case rel => exact ⟨k + 1, by omega, HN, rfl⟩
              case measure => simp; omega
            have d3 : (c != 95) = true := by simpa using h3
            have HN : Hid (part4 (sb s) = false) := by
              show _ = _
              rw [HQ.out, HB.out (by unfold sign4; rw [HX.out]; simp [h1, h2, h3])]
            clear h0 h1 h2 h3
            go_wp2_with (go_at_call 126; refine q.mono ?_; rintro e w' ⟨rfl, rfl⟩)
            go_ret
            exact ⟨by rw [HN.out]; rfl, hB1⟩
        · have HN : Hid (signs4 0 ((sb s).take (k + 1)) = true) := by show _ = _; rw [HS.out, HA.out]; unfold sign4; rw [HX.out]; rfl
          go_wp2_with (go_at_call 126; refine q.mono ?_; rintro e w' ⟨rfl, rfl⟩)
          go_roundw
          case rel => exact ⟨k + 1, by omega, HN, rfl⟩
          case measure => simp; omega
      · obtain ⟨r1, r2, r3, r4⟩ := rune_high s k hp (by omega)
        have HN : Hid (part4 (sb s) = false) := by
          show _ = _
          rw [HQ.out]
          refine signs4_bad hg ?_
          unfold sign4 plain4
          simp
          omega
        obtain ⟨r, n, hdec⟩ : ∃ r n, Utf8.decode s k = (r, n) := ⟨_, _, rfl⟩
        have hnx0 : ∀ ty, (Instr.next (.pointer (some ⟨w.heap.size, 0, none⟩)) true ty).run Tryz.prog (w.iter s k) = _ := fun ty => run_next_any w s k ty hp
        rw [hdec] at r1 r2 r3 r4 hnx0
        simp only at r1 r2 r3 r4 hnx0
        have hnx : ∀ ty, (Instr.next (.pointer (some ⟨w.heap.size, 0, none⟩)) true ty).run Tryz.prog (w.iter s k) = .ok (.tuple #[.bool true, .int .i64 k, .int .i32 r]) (w.iter s (k + n)) := hnx0
        have hB1 : Below w.heap.size w (w.iter s (k + n)) := (Below.refl _ _).alloc (Nat.le_refl _) _
        have q := begins_impl (w.iter s (k + n)) (r : Int)
        rw [show plain4 (r : Int) = false by unfold plain4; simp; omega] at q
        have d1 : ((r : Int) != 45) = true := by simp; omega
        have d2 : ((r : Int) != 46) = true := by simp; omega
        have d3 : ((r : Int) != 95) = true := by simp; omega
        clear hg hnx0 hdec r4
        by_cases h0 : k = 0
        · have d0 : ((k : Int) == 0) = true := by simp; omega
          clear h0
          go_wp2_with (go_at_call 126; refine q.mono ?_; rintro e w' ⟨rfl, rfl⟩)
          go_ret
          exact ⟨by rw [HN.out]; rfl, hB1⟩
        · have d0 : ((k : Int) == 0) = false := by simp; omega
          clear h0
          go_wp2_with (go_at_call 126; refine q.mono ?_; rintro e w' ⟨rfl, rfl⟩)
          go_ret
          exact ⟨by rw [HN.out]; rfl, hB1⟩
    · have hnx : ∀ ty, (Instr.next (.pointer (some ⟨w.heap.size, 0, none⟩)) true ty).run Tryz.prog (w.iter s k) = _ := fun ty => run_next_end w s k ty hp
      have HN : Hid (part4 (sb s) = true) := by
        show _ = _
        have h1 := HA.out
        rw [List.take_of_length_le (by rw [sb_len]; omega)] at h1
        rw [HQ.out, h1]
      go_wp2
      go_ret
      exact ⟨by rw [HN.out]; rfl, hB⟩

end Go.Proofs.YtbopliahafkecaaGreatDoor.Mod

/- Chapter 4, the landed code: a number up to 1000. -/
namespace Go.Proofs.YtbopliahafkecaaGreatDoor.Ver
open Go.RowKit Go.Proofs.YtbopliahafkecaaGreatDoor.Mem Go.Proofs.YtbopliahafkecaaGreatDoor.Laws Go.Proofs.YtbopliahafkecaaGreatDoor.Bytes Go.Proofs.YtbopliahafkecaaGreatDoor.Sha
set_option linter.unusedVariables false
set_option linter.unusedSimpArgs false

set_option maxRecDepth 1000 in
set_option maxHeartbeats 1000000 in
theorem upto4_impl (w : World) (s : ByteArray) (hs : s.size ≤ 1000000000000) :
    Calls Tryz.prog 67 #[.string s, .int .i64 1000] w fun e w' => e = .returned (.tuple #[.int .i64 (upTo (sb s) 1000).1, .bool (upTo (sb s) 1000).2]) ∧ Below w.heap.size w w' := by
  have q := number_impl w s hs
  obtain ⟨x, hx⟩ : ∃ x, isNum (sb s) = x := ⟨_, rfl⟩
  rw [hx] at q
  have HX : Hid (isNum (sb s) = x) := hx
  clear hx
  cases x
  · have HN : Hid (upTo (sb s) 1000 = (0, false)) := by show _ = _; unfold upTo; rw [HX.out]; simp
    go_enter Tryz.func67, Tryz.ntmps67
    go_wp2_with (go_at_call 92; refine q.mono ?_; rintro e w1 ⟨rfl, b1⟩)
    go_ret2
    exact ⟨by rw [HN.out]; rfl, b1⟩
  · have HA : Hid ((sb s).all isd = true) := by
      show _ = _
      have h := HX.out
      unfold isNum at h
      rw [Bool.and_eq_true] at h
      exact h.1
    go_enter Tryz.func67, Tryz.ntmps67
    go_wp2_with (go_at_call 92; refine q.mono ?_; rintro e w1 ⟨rfl, b1⟩)
    have s1 := b1.size
    have HB : Hid (Below w.heap.size w w1) := b1
    clear q b1
    go_loopw [6] (fun n wr => ∃ (k : Nat) (m : Int), k ≤ s.size ∧ n = .int .i64 m ∧ Hid (m = numv ((sb s).take k)) ∧ 0 ≤ m ∧ m ≤ 1000 ∧ wr = w1.iter s k) (fun _ wr => s.size - wr.iterPos w1.heap.size)
    case atStart => exact ⟨0, 0, Nat.zero_le _, rfl, rfl, by omega, by omega, rfl⟩
    case round =>
      obtain ⟨k, m, hk, rfl, HM, m0, m1, rfl⟩ := hrel
      by_cases hp : k < s.size
      · have hg := sb_get s k hp
        have hd : isd (s[k].toNat : Int) = true := List.all_eq_true.1 HA.out _ (List.mem_of_getElem? hg)
        have hc : 48 ≤ (s[k].toNat : Int) ∧ (s[k].toNat : Int) ≤ 57 := by simpa [isd] using hd
        have hnx : ∀ ty, (Instr.next (.pointer (some ⟨w1.heap.size, 0, none⟩)) true ty).run Tryz.prog (w1.iter s k) = _ := fun ty => run_next_ascii w1 s k ty hp (by omega)
        have HN : Hid (m * 10 + ((s[k].toNat : Int) - 48) = numv ((sb s).take (k + 1))) := by
          show _ = _
          rw [take_snoc hg, numv_snoc, HM.out]
        have HT := numv_take HA.out (k + 1)
        rw [← HN.out] at HT
        have HT' : Hid (m * 10 + ((s[k].toNat : Int) - 48) ≤ numv (sb s)) := HT
        obtain ⟨c, hcc⟩ : ∃ c : Int, c = (s[k].toNat : Int) := ⟨_, rfl⟩
        have hBk : Below w.heap.size w (w1.iter s (k + 1)) := HB.out.alloc s1 _
        rw [← hcc] at hnx hc HN HT'
        clear hg hd HT hcc
        by_cases hgt : 1000 < m * 10 + (c - 48)
        · have HE : Hid (upTo (sb s) 1000 = (0, false)) := by
            show _ = _
            unfold upTo
            rw [if_neg (fun h => by have := h.2; have := HT'.out; omega)]
          go_wp2
          go_ret2
          exact ⟨by rw [HE.out]; rfl, hBk⟩
        · go_wp2
          go_roundw
          case rel => exact ⟨k + 1, m * 10 + (c - 48), by omega, by go_num, HN, by omega, by omega, rfl⟩
          case measure => simp; omega
      · have hnx : ∀ ty, (Instr.next (.pointer (some ⟨w1.heap.size, 0, none⟩)) true ty).run Tryz.prog (w1.iter s k) = _ := fun ty => run_next_end w1 s k ty hp
        have HE : Hid (upTo (sb s) 1000 = (m, true)) := by
          show _ = _
          have h := HM.out
          rw [List.take_of_length_le (by rw [sb_len]; omega)] at h
          unfold upTo
          rw [if_pos ⟨HX.out, by omega⟩, h]
        have hBk : Below w.heap.size w (w1.iter s k) := HB.out.alloc s1 _
        go_wp2
        go_ret2
        exact ⟨by rw [HE.out]; rfl, hBk⟩

end Go.Proofs.YtbopliahafkecaaGreatDoor.Ver

/- Chapter 17, the landed code: what the library cuts off: at a blank, ahead, behind. -/
namespace Go.Proofs.YtbopliahafkecaaGreatDoor.Lm
open Go.RowKit Go.Proofs.YtbopliahafkecaaGreatDoor.Mem Go.Proofs.YtbopliahafkecaaGreatDoor.Laws Go.Proofs.YtbopliahafkecaaGreatDoor.Bytes Go.Proofs.YtbopliahafkecaaGreatDoor.Sha Go.Proofs.YtbopliahafkecaaGreatDoor.Ver Go.Proofs.YtbopliahafkecaaGreatDoor.Mod Go.Proofs.YtbopliahafkecaaGreatDoor.Ent Go.Proofs.YtbopliahafkecaaGreatDoor.He Go.Proofs.YtbopliahafkecaaGreatDoor.Lk
set_option linter.unusedVariables false
set_option linter.unusedSimpArgs false

theorem indexByte_B : ∀ l : List UInt8, Lib.indexByte l 32 = match (l.map fun b => (b.toNat : Int)).findIdx? (fun c => c == 32) with
    | some i => (i : Int)
    | none => -1 := by
  intro l
  induction l with
  | nil => rfl
  | cons b r ih =>
    by_cases h : b = 32
    · subst h; simp [Lib.indexByte, List.findIdx?_cons]
    · have h2 : ((b.toNat : Int) == 32) = false := by
        rw [beq_eq_false_iff_ne]
        intro h3
        apply h
        apply UInt8.toNat_inj.1
        have : (32 : UInt8).toNat = 32 := rfl
        omega
      have h4 : (b == 32) = false := by simpa using h
      rw [List.map_cons, List.findIdx?_cons, h2]
      unfold Lib.indexByte
      simp only [h4, Bool.false_eq_true, if_false, ih]
      cases (r.map fun b => (b.toNat : Int)).findIdx? (fun c => c == 32) with
      | none => simp
      | some i => simp

set_option maxRecDepth 1000000 in
set_option maxHeartbeats 1000000 in
theorem ibB_impl (w : World) (s : ByteArray) : Calls Tryz.prog 111 #[.string s, .int .u8 32] w fun e w' => e = .returned (.int .i64 (at1 32 s)) ∧ w' = w := by
  have HD : Hid (Lib.indexByte s.data.toList (32 : Int).toNat.toUInt8 = at1 32 s) := indexByte_B s.data.toList
  go_enter Tryz.func111, Tryz.ntmps111
  go_wp2
  rw [run_callFunc_extern Tryz.func132 (by kernel_rfl) (by kernel_rfl) (by kernel_rfl) (e := Extern.BytealgIndexByte.indexByte) (by kernel_rfl), Lib.run_indexByteString, HD.out]
  simp only [Result.andThen]
  rw [Oper.upon_value]
  go_wp2
  go_ret
  exact ⟨rfl, rfl⟩

set_option maxRecDepth 1000000 in
set_option maxHeartbeats 2000000 in
theorem ixB_impl (w : World) (s : ByteArray) : Calls Tryz.prog 114 #[.string s, .string ⟨#[32]⟩] w fun e w' => e = .returned (.int .i64 (at1 32 s)) ∧ w' = w := by
  have q := ibB_impl w s
  by_cases h : s.toList = [32]
  · have h1 : ([32] == s.toList) = true := by simp [h]
    have HD : Hid (at1 32 s = 0) := by
      show _ = _
      unfold at1 fst1
      rw [show sb s = [32] by unfold sb; rw [← ByteArray.toList_eq, h]; rfl]
      rfl
    clear h
    go_enter Tryz.func114, Tryz.ntmps114
    go_wp2_with (go_at_call 111; refine q.mono ?_; rintro e w' ⟨rfl, rfl⟩)
    go_ret
    exact ⟨by rw [HD.out]; rfl, rfl⟩
  · have h1 : ([32] == s.toList) = false := by
      rw [beq_eq_false_iff_ne]
      exact fun e => h e.symm
    clear h
    obtain ⟨d, hd⟩ : ∃ d, at1 32 s = d := ⟨_, rfl⟩
    rw [hd] at q ⊢
    clear hd
    go_enter Tryz.func114, Tryz.ntmps114
    go_wp2_with (go_at_call 111; refine q.mono ?_; rintro e w' ⟨rfl, rfl⟩)
    go_ret
    exact ⟨rfl, rfl⟩

set_option maxRecDepth 1000000 in
set_option maxHeartbeats 1000000 in
theorem cutlB_impl (w : World) (s : ByteArray) (hs : s.size ≤ 1000000000000) : Calls Tryz.prog 91 #[.string s, .string ⟨#[32]⟩] w fun e w' => e = .returned (.tuple #[.string (cut1 32 s).1, .string (cut1 32 s).2, .bool (decide (0 ≤ at1 32 s))]) ∧ Below w.heap.size w w' := by
  have q := ixB_impl w s
  cases hd : fst1 32 s with
  | none =>
    have e1 : at1 32 s = -1 := by unfold at1; rw [hd]
    have HC : Hid ((cut1 32 s).1 = s ∧ (cut1 32 s).2 = ⟨#[]⟩) := by show _ ∧ _; unfold cut1; rw [hd]; exact ⟨rfl, rfl⟩
    rw [e1] at q
    have HE : Hid (decide (0 ≤ at1 32 s) = false) := by show _ = _; rw [e1]; rfl
    clear e1 hd
    go_enter Tryz.func91, Tryz.ntmps91
    go_wp2_with (go_at_call 114; refine q.mono ?_; rintro e w' ⟨rfl, rfl⟩)
    go_ret3
    exact ⟨by rw [HC.out.1, HC.out.2, HE.out]; rfl, Below.refl _ _⟩
  | some i =>
    have e1 : at1 32 s = (i : Int) := by unfold at1; rw [hd]
    have hi := fst1_lt hd
    have HC : Hid ((cut1 32 s).1 = s.extract 0 i ∧ (cut1 32 s).2 = s.extract (i + 1) s.size) := by show _ ∧ _; unfold cut1; rw [hd]; exact ⟨rfl, rfl⟩
    rw [e1] at q
    have HE : Hid (decide (0 ≤ at1 32 s) = true) := by show _ = _; rw [e1]; simp
    clear e1 hd
    have h0 : (0 : Int) ≤ (i : Int) := by omega
    have h1 : i ≤ s.size := by omega
    have h2 : i + 1 ≤ s.size := by omega
    go_enter Tryz.func91, Tryz.ntmps91
    go_wp2_with (go_at_call 114; refine q.mono ?_; rintro e w' ⟨rfl, rfl⟩)
    go_quiet (fail)
    go_wp2
    go_ret3
    exact ⟨by rw [HC.out.1, HC.out.2, HE.out]; rfl, ⟨rfl, rfl, rfl, Nat.le_refl _, fun _ _ => rfl⟩⟩

set_option maxRecDepth 1000000 in
set_option maxHeartbeats 1000000 in
theorem cutB_impl (w : World) (s : ByteArray) (hs : s.size ≤ 1000000000000) : Calls Tryz.prog 66 #[.string s, .string ⟨#[32]⟩] w fun e w' => e = .returned (.tuple #[.string (cut1 32 s).1, .string (cut1 32 s).2, .bool (decide (0 ≤ at1 32 s))]) ∧ Below w.heap.size w w' := by
  have q := cutlB_impl w s hs
  obtain ⟨x, hx⟩ : ∃ x, (cut1 32 s).1 = x := ⟨_, rfl⟩
  obtain ⟨y, hy⟩ : ∃ x, (cut1 32 s).2 = x := ⟨_, rfl⟩
  obtain ⟨z, hz⟩ : ∃ x, decide (0 ≤ at1 32 s) = x := ⟨_, rfl⟩
  rw [hx, hy, hz] at q ⊢
  clear hx hy hz
  go_enter Tryz.func66, Tryz.ntmps66
  go_wp2_with (go_at_call 91; refine q.mono ?_; rintro e w' ⟨rfl, b1⟩)
  go_ret3
  exact ⟨rfl, b1⟩

theorem indexByte_N : ∀ l : List UInt8, Lib.indexByte l 10 = match (l.map fun b => (b.toNat : Int)).findIdx? (fun c => c == 10) with
    | some i => (i : Int)
    | none => -1 := by
  intro l
  induction l with
  | nil => rfl
  | cons b r ih =>
    by_cases h : b = 10
    · subst h; simp [Lib.indexByte, List.findIdx?_cons]
    · have h2 : ((b.toNat : Int) == 10) = false := by
        rw [beq_eq_false_iff_ne]
        intro h3
        apply h
        apply UInt8.toNat_inj.1
        have : (10 : UInt8).toNat = 10 := rfl
        omega
      have h4 : (b == 10) = false := by simpa using h
      rw [List.map_cons, List.findIdx?_cons, h2]
      unfold Lib.indexByte
      simp only [h4, Bool.false_eq_true, if_false, ih]
      cases (r.map fun b => (b.toNat : Int)).findIdx? (fun c => c == 10) with
      | none => simp
      | some i => simp

set_option maxRecDepth 1000000 in
set_option maxHeartbeats 1000000 in
theorem ibN_impl (w : World) (s : ByteArray) : Calls Tryz.prog 111 #[.string s, .int .u8 10] w fun e w' => e = .returned (.int .i64 (at1 10 s)) ∧ w' = w := by
  have HD : Hid (Lib.indexByte s.data.toList (10 : Int).toNat.toUInt8 = at1 10 s) := indexByte_N s.data.toList
  go_enter Tryz.func111, Tryz.ntmps111
  go_wp2
  rw [run_callFunc_extern Tryz.func132 (by kernel_rfl) (by kernel_rfl) (by kernel_rfl) (e := Extern.BytealgIndexByte.indexByte) (by kernel_rfl), Lib.run_indexByteString, HD.out]
  simp only [Result.andThen]
  rw [Oper.upon_value]
  go_wp2
  go_ret
  exact ⟨rfl, rfl⟩


theorem end10_nil {s : ByteArray} (h : s.size = 0) : end10 s = false := by
  have := sb_len s
  cases hb : sb s with
  | nil => unfold end10; rw [hb]; rfl
  | cons x y => rw [hb] at this; simp at this; omega
theorem end10_pos {s : ByteArray} (h : 0 < s.size) : ((s.extract (s.size - 1) s.size).toList == [10]) = end10 s := by
  have hl := sb_len s
  have he : sb (s.extract (s.size - 1) s.size) = [(sb s)[s.size - 1]'(by omega)] := by
    rw [sb_ext, List.drop_eq_getElem_cons (by omega)]
    rw [show s.size - (s.size - 1) = 1 by omega]
    rfl
  have hlast : (sb s).getLast? = some ((sb s)[s.size - 1]'(by omega)) := by
    have e9 : (sb s).length - 1 = s.size - 1 := by omega
    rw [List.getLast?_eq_getElem?, e9]
    exact List.getElem?_eq_getElem (by omega)
  have hsb : sb (s.extract (s.size - 1) s.size) = (s.extract (s.size - 1) s.size).toList.map fun b => (b.toNat : Int) := by rw [ByteArray.toList_eq]; rfl
  rw [hsb] at he
  unfold end10
  rw [hlast]
  obtain ⟨x, hx⟩ := List.map_eq_singleton_iff.1 he
  rw [hx.1, ← hx.2]
  by_cases hc : x = 10
  · subst hc; rfl
  · have h2 : (x.toNat : Int) ≠ 10 := by
      intro h3
      apply hc
      apply UInt8.toNat_inj.1
      have : (10 : UInt8).toNat = 10 := rfl
      omega
    have e1 : ([x] == ([10] : List UInt8)) = false := by
      rw [beq_eq_false_iff_ne]
      intro h4
      exact hc (List.cons.inj h4).1
    have e2 : decide (some (x.toNat : Int) = some 10) = false := by
      apply decide_eq_false
      intro h4
      exact h2 (Option.some.inj h4)
    rw [e1, e2]
theorem mark_short {s : ByteArray} (h : s.size < 6) : mark s = false := by
  unfold mark
  apply decide_eq_false
  intro h2
  have := congrArg List.length h2
  rw [List.length_take, sb_len] at this
  simp at this
  omega
theorem mark_pos {s : ByteArray} (h : 6 ≤ s.size) : ((s.extract 0 6).toList == [105, 110, 100, 101, 120, 32]) = mark s := by
  have he : sb (s.extract 0 6) = (sb s).take 6 := by rw [sb_ext]; simp
  have hsb : sb (s.extract 0 6) = (s.extract 0 6).toList.map fun b => (b.toNat : Int) := by rw [ByteArray.toList_eq]; rfl
  have hw : ([105, 110, 100, 101, 120, 32] : List Int) = ([105, 110, 100, 101, 120, 32] : List UInt8).map fun b => (b.toNat : Int) := rfl
  unfold mark
  rw [← he, hsb, hw]
  by_cases hc : (s.extract 0 6).toList = [105, 110, 100, 101, 120, 32]
  · rw [hc]; rfl
  · rw [beq_eq_false_iff_ne.2 hc]
    symm
    apply decide_eq_false
    intro h4
    exact hc ((List.map_inj_right (f := fun x : UInt8 => (x.toNat : Int)) (fun a b hab => by
      apply UInt8.toNat_inj.1
      have : (a.toNat : Int) = (b.toNat : Int) := hab
      omega)).1 h4)

set_option maxRecDepth 1000000 in
set_option maxHeartbeats 1000000 in
theorem hassuf_impl (w : World) (s : ByteArray) (hs : s.size ≤ 1000000000000) : Calls Tryz.prog 112 #[.string s, .string ⟨#[10]⟩] w fun e w' => e = .returned (.bool (end10 s)) ∧ w' = w := by
  by_cases h0 : s.size = 0
  · have HN : Hid (end10 s = false) := end10_nil h0
    have h1 : ¬ 1 ≤ s.size := by omega
    have h2 : s.size < 1 := by omega
    clear h0
    go_enter Tryz.func112, Tryz.ntmps112
    go_wp2
    go_ret
    exact ⟨by rw [HN.out]; rfl, rfl⟩
  · have h1 : 1 ≤ s.size := by omega
    have e1 : ((s.size : Int) - 1).toNat = s.size - 1 := by omega
    have hv := end10_pos (s := s) (by omega)
    obtain ⟨x, hx⟩ : ∃ x, end10 s = x := ⟨_, rfl⟩
    rw [hx] at hv ⊢
    clear hx h0
    go_enter Tryz.func112, Tryz.ntmps112
    go_wp2
    go_ret
    exact ⟨by simp [hv], rfl⟩

set_option maxRecDepth 1000000 in
set_option maxHeartbeats 1000000 in
theorem trim_impl (w : World) (s : ByteArray) (hs : s.size ≤ 1000000000000) : Calls Tryz.prog 64 #[.string s, .string ⟨#[10]⟩] w fun e w' => e = .returned (.string (cut10 s)) ∧ w' = w := by
  have q := hassuf_impl w s hs
  cases hx : end10 s with
  | false =>
    have HV : Hid (cut10 s = s) := by show _ = _; unfold cut10; rw [hx]; rfl
    rw [hx] at q
    clear hx
    go_enter Tryz.func64, Tryz.ntmps64
    go_wp2_with (first | (go_at_call 112; refine q.mono ?_; rintro e w' ⟨rfl, rfl⟩) | go_in)
    go_ret
    exact ⟨by rw [HV.out]; rfl, rfl⟩
  | true =>
    have h1 : 1 ≤ s.size := by
      by_cases h0 : s.size = 0
      · rw [end10_nil h0] at hx; cases hx
      · omega
    have HV : Hid (cut10 s = s.extract 0 (s.size - 1)) := by show _ = _; unfold cut10; rw [hx]; rfl
    have e1 : ((s.size : Int) - 1).toNat = s.size - 1 := by omega
    rw [hx] at q
    clear hx
    go_enter Tryz.func64, Tryz.ntmps64
    go_wp2_with (first | (go_at_call 112; refine q.mono ?_; rintro e w' ⟨rfl, rfl⟩) | go_in)
    go_ret
    exact ⟨by rw [HV.out]; rfl, rfl⟩

set_option maxRecDepth 1000000 in
set_option maxHeartbeats 1000000 in
theorem hasp_impl (w : World) (s : ByteArray) (hs : s.size ≤ 1000000000000) : Calls Tryz.prog 113 #[.string s, .string ⟨#[105, 110, 100, 101, 120, 32]⟩] w fun e w' => e = .returned (.bool (mark s)) ∧ w' = w := by
  by_cases h0 : s.size < 6
  · have HN : Hid (mark s = false) := mark_short h0
    have h1 : ¬ 6 ≤ s.size := by omega
    go_enter Tryz.func113, Tryz.ntmps113
    go_wp2
    go_ret
    exact ⟨by rw [HN.out]; rfl, rfl⟩
  · have h1 : 6 ≤ s.size := by omega
    have hv := mark_pos (s := s) (by omega)
    obtain ⟨x, hx⟩ : ∃ x, mark s = x := ⟨_, rfl⟩
    rw [hx] at hv ⊢
    clear hx h0
    go_enter Tryz.func113, Tryz.ntmps113
    go_wp2
    go_ret
    exact ⟨by simp [hv], rfl⟩

set_option maxRecDepth 1000000 in
set_option maxHeartbeats 1000000 in
theorem cutp_impl (w : World) (s : ByteArray) (hs : s.size ≤ 1000000000000) : Calls Tryz.prog 65 #[.string s, .string ⟨#[105, 110, 100, 101, 120, 32]⟩] w fun e w' => e = .returned (.tuple #[.string (behind s), .bool (mark s)]) ∧ w' = w := by
  have q := hasp_impl w s hs
  cases hx : mark s with
  | false =>
    have HV : Hid (behind s = s) := by show _ = _; unfold behind; rw [hx]; rfl
    rw [hx] at q
    clear hx
    go_enter Tryz.func65, Tryz.ntmps65
    go_wp2_with (first | (go_at_call 113; refine q.mono ?_; rintro e w' ⟨rfl, rfl⟩) | go_in)
    go_ret2
    exact ⟨by rw [HV.out]; rfl, rfl⟩
  | true =>
    have h1 : 6 ≤ s.size := by
      by_cases h0 : s.size < 6
      · rw [mark_short h0] at hx; cases hx
      · omega
    have HV : Hid (behind s = s.extract 6 s.size) := by show _ = _; unfold behind; rw [hx]; rfl
    rw [hx] at q
    clear hx
    go_enter Tryz.func65, Tryz.ntmps65
    go_wp2_with (first | (go_at_call 113; refine q.mono ?_; rintro e w' ⟨rfl, rfl⟩) | go_in)
    go_ret2
    exact ⟨by rw [HV.out]; rfl, rfl⟩

set_option maxRecDepth 1000000 in
set_option maxHeartbeats 1000000 in
theorem ibs_impl (w : World) (s : ByteArray) : Calls Tryz.prog 88 #[.string s, .int .u8 10] w fun e w' => e = .returned (.int .i64 (at1 10 s)) ∧ w' = w := by
  have q := ibN_impl w s
  obtain ⟨d, hd⟩ : ∃ d, at1 10 s = d := ⟨_, rfl⟩
  rw [hd] at q ⊢
  clear hd
  go_enter Tryz.func88, Tryz.ntmps88
  go_wp2_with (go_at_call 111; refine q.mono ?_; rintro e w' ⟨rfl, rfl⟩)
  go_ret
  exact ⟨rfl, rfl⟩

end Go.Proofs.YtbopliahafkecaaGreatDoor.Lm

/- Chapter 17, the landed code: a number up to 200. -/
namespace Go.Proofs.YtbopliahafkecaaGreatDoor.Ver
open Go.RowKit Go.Proofs.YtbopliahafkecaaGreatDoor.Mem Go.Proofs.YtbopliahafkecaaGreatDoor.Laws Go.Proofs.YtbopliahafkecaaGreatDoor.Bytes Go.Proofs.YtbopliahafkecaaGreatDoor.Sha
set_option linter.unusedVariables false
set_option linter.unusedSimpArgs false

set_option maxRecDepth 1000 in
set_option maxHeartbeats 1000000 in
theorem upto17_impl (w : World) (s : ByteArray) (hs : s.size ≤ 1000000000000) :
    Calls Tryz.prog 67 #[.string s, .int .i64 200] w fun e w' => e = .returned (.tuple #[.int .i64 (upTo (sb s) 200).1, .bool (upTo (sb s) 200).2]) ∧ Below w.heap.size w w' := by
  have q := number_impl w s hs
  obtain ⟨x, hx⟩ : ∃ x, isNum (sb s) = x := ⟨_, rfl⟩
  rw [hx] at q
  have HX : Hid (isNum (sb s) = x) := hx
  clear hx
  cases x
  · have HN : Hid (upTo (sb s) 200 = (0, false)) := by show _ = _; unfold upTo; rw [HX.out]; simp
    go_enter Tryz.func67, Tryz.ntmps67
    go_wp2_with (go_at_call 92; refine q.mono ?_; rintro e w1 ⟨rfl, b1⟩)
    go_ret2
    exact ⟨by rw [HN.out]; rfl, b1⟩
  · have HA : Hid ((sb s).all isd = true) := by
      show _ = _
      have h := HX.out
      unfold isNum at h
      rw [Bool.and_eq_true] at h
      exact h.1
    go_enter Tryz.func67, Tryz.ntmps67
    go_wp2_with (go_at_call 92; refine q.mono ?_; rintro e w1 ⟨rfl, b1⟩)
    have s1 := b1.size
    have HB : Hid (Below w.heap.size w w1) := b1
    clear q b1
    go_loopw [6] (fun n wr => ∃ (k : Nat) (m : Int), k ≤ s.size ∧ n = .int .i64 m ∧ Hid (m = numv ((sb s).take k)) ∧ 0 ≤ m ∧ m ≤ 200 ∧ wr = w1.iter s k) (fun _ wr => s.size - wr.iterPos w1.heap.size)
    case atStart => exact ⟨0, 0, Nat.zero_le _, rfl, rfl, by omega, by omega, rfl⟩
    case round =>
      obtain ⟨k, m, hk, rfl, HM, m0, m1, rfl⟩ := hrel
      by_cases hp : k < s.size
      · have hg := sb_get s k hp
        have hd : isd (s[k].toNat : Int) = true := List.all_eq_true.1 HA.out _ (List.mem_of_getElem? hg)
        have hc : 48 ≤ (s[k].toNat : Int) ∧ (s[k].toNat : Int) ≤ 57 := by simpa [isd] using hd
        have hnx : ∀ ty, (Instr.next (.pointer (some ⟨w1.heap.size, 0, none⟩)) true ty).run Tryz.prog (w1.iter s k) = _ := fun ty => run_next_ascii w1 s k ty hp (by omega)
        have HN : Hid (m * 10 + ((s[k].toNat : Int) - 48) = numv ((sb s).take (k + 1))) := by
          show _ = _
          rw [take_snoc hg, numv_snoc, HM.out]
        have HT := numv_take HA.out (k + 1)
        rw [← HN.out] at HT
        have HT' : Hid (m * 10 + ((s[k].toNat : Int) - 48) ≤ numv (sb s)) := HT
        obtain ⟨c, hcc⟩ : ∃ c : Int, c = (s[k].toNat : Int) := ⟨_, rfl⟩
        have hBk : Below w.heap.size w (w1.iter s (k + 1)) := HB.out.alloc s1 _
        rw [← hcc] at hnx hc HN HT'
        clear hg hd HT hcc
        by_cases hgt : 200 < m * 10 + (c - 48)
        · have HE : Hid (upTo (sb s) 200 = (0, false)) := by
            show _ = _
            unfold upTo
            rw [if_neg (fun h => by have := h.2; have := HT'.out; omega)]
          go_wp2
          go_ret2
          exact ⟨by rw [HE.out]; rfl, hBk⟩
        · go_wp2
          go_roundw
          case rel => exact ⟨k + 1, m * 10 + (c - 48), by omega, by go_num, HN, by omega, by omega, rfl⟩
          case measure => simp; omega
      · have hnx : ∀ ty, (Instr.next (.pointer (some ⟨w1.heap.size, 0, none⟩)) true ty).run Tryz.prog (w1.iter s k) = _ := fun ty => run_next_end w1 s k ty hp
        have HE : Hid (upTo (sb s) 200 = (m, true)) := by
          show _ = _
          have h := HM.out
          rw [List.take_of_length_le (by rw [sb_len]; omega)] at h
          unfold upTo
          rw [if_pos ⟨HX.out, by omega⟩, h]
        have hBk : Below w.heap.size w (w1.iter s k) := HB.out.alloc s1 _
        go_wp2
        go_ret2
        exact ⟨by rw [HE.out]; rfl, hBk⟩

end Go.Proofs.YtbopliahafkecaaGreatDoor.Ver
