/-
  Merged: Ca, Ca0, Ca5, Ca7, Ca1, Ca2, Ca3, Ca4, Ca6, Ca8, CaT, Ce, Cd, Cd0, Cd1, Cd2, Cd3, Cd4, Cd5, Cd6, Cd7, Cd16, Cd10, Cd11, Cd12, Cd13, Cd14, Cd8, Cd9, Cd17, Cd15, Cd18, Cf
-/
import Derived.Test.YtmickhoededbcaaGreatPk1
import Derived.Test.YtmickhoededbcaaGreatPk5

/-
  Runs of known calls, each in a small memory of its own.
-/
namespace Go.Proofs.YtmickhoededbcaaGreat
open Go Go.RowKit EX
set_option maxRecDepth 100000
set_option linter.unusedVariables false
def iv (n : Int) : SV := .v (.int .i64 n)
def bo (b : Bool) : SV := .v (.bool b)
def sn0 : Mo := ⟨7, 8, [], [.v (.agg #[(.int .i64 3), (.int .i64 3), (.int .i64 0), (.int .i64 4), (.int .i64 0), (.int .i64 0), (.int .i64 1), (.int .i64 2), (.int .i64 3), (.int .i64 4), (.int .i64 16), (.int .i64 16), (.int .i64 28)])], [], .p 0 0, [], [⟨56, [.s 1 0 28 28, .s 2 0 4 4], 0, false, []⟩, ⟨3, [iv 0, iv 0, iv 0, iv 0, iv 5, iv 1, iv 0, iv 0, iv 5, iv 2, iv 0, iv 0, iv 5, iv 3, iv 0, iv 0, iv 0, iv 0, iv 0, iv 0, iv 0, iv 0, iv 0, iv 0, iv 0, iv 0, iv 0, iv 0], 0, false, []⟩, ⟨9, [.v (.string ⟨#[]⟩), .v (.string ⟨#[]⟩), .v (.string ⟨#[]⟩), .v (.string ⟨#[]⟩)], 0, false, []⟩]⟩
def sn1 : Mo := ⟨27, 8, [1, 2], [.v (.agg #[(.int .i64 3), (.int .i64 3), (.int .i64 0), (.int .i64 4), (.int .i64 0), (.int .i64 0), (.int .i64 1), (.int .i64 2), (.int .i64 3), (.int .i64 4), (.int .i64 16), (.int .i64 16), (.int .i64 28)]), iv 0, .g [iv 3, iv 0, iv 0, iv 1, iv 0, iv 0, iv 0, .s 0 0 2 2, .s 1 0 2 2, .v (.slice none 0 0)], .v (.slice none 0 0)], [⟨39, [iv 0, iv 0, iv 0, iv 1, iv 0, iv 0], 0, false, []⟩, ⟨41, [iv 1, iv 7, iv 2, iv 8], 0, false, []⟩], .v (.tuple #[(.agg #[(.int .i64 1), (.int .i64 20), (.int .i64 0), (.int .i64 0), (.string ⟨#[]⟩)]), (.agg #[(.int .i64 0), (.int .i64 0), (.int .i64 0), (.int .i64 0), (.bool false), (.bool false), (.int .i64 0)]), (.bool false)]), [], []⟩
def sn2 : Mo := ⟨27, 23, [1, 2, 22], [.v (.agg #[(.int .i64 3), (.int .i64 3), (.int .i64 0), (.int .i64 4), (.int .i64 0), (.int .i64 0), (.int .i64 1), (.int .i64 2), (.int .i64 3), (.int .i64 4), (.int .i64 16), (.int .i64 16), (.int .i64 28)]), iv 0, .g [iv 3, iv 0, iv 0, iv 1, iv 0, iv 0, iv 0, .s 0 0 2 2, .s 1 0 2 2, .v (.slice none 0 0)], .r 2 0 1 1], [⟨39, [iv 0, iv 0, iv 0, iv 1, iv 0, iv 0], 0, false, []⟩, ⟨41, [iv 1, iv 7, iv 2, iv 8], 0, false, []⟩, ⟨48, [iv 0, bo true], 2, false, []⟩], .v (.tuple #[(.agg #[(.int .i64 3), (.int .i64 20), (.int .i64 0), (.int .i64 1), (.string ⟨#[]⟩)]), (.agg #[(.int .i64 0), (.int .i64 0), (.int .i64 0), (.int .i64 0), (.bool false), (.bool false), (.int .i64 0)]), (.bool false)]), [], []⟩
def sn3 : Mo := ⟨27, 44, [1, 2, 43], [.v (.agg #[(.int .i64 3), (.int .i64 3), (.int .i64 0), (.int .i64 4), (.int .i64 0), (.int .i64 0), (.int .i64 1), (.int .i64 2), (.int .i64 3), (.int .i64 4), (.int .i64 16), (.int .i64 16), (.int .i64 28)]), iv 0, .g [iv 3, iv 0, iv 0, iv 1, iv 0, iv 0, iv 0, .s 0 0 2 2, .s 1 0 2 2, .v (.slice none 0 0)], .r 2 0 2 2], [⟨39, [iv 0, iv 0, iv 0, iv 1, iv 0, iv 0], 0, false, []⟩, ⟨41, [iv 1, iv 7, iv 2, iv 8], 0, false, []⟩, ⟨48, [iv 0, bo true, iv 0, bo true], 2, false, []⟩], .v (.tuple #[(.agg #[(.int .i64 1), (.int .i64 24), (.int .i64 0), (.int .i64 0), (.string ⟨#[]⟩)]), (.agg #[(.int .i64 0), (.int .i64 0), (.int .i64 0), (.int .i64 0), (.bool false), (.bool false), (.int .i64 0)]), (.bool false)]), [], []⟩
def sn4 : Mo := ⟨27, 59, [1, 2, 58], [.v (.agg #[(.int .i64 3), (.int .i64 3), (.int .i64 0), (.int .i64 4), (.int .i64 0), (.int .i64 0), (.int .i64 1), (.int .i64 2), (.int .i64 3), (.int .i64 4), (.int .i64 16), (.int .i64 16), (.int .i64 28)]), iv 0, .g [iv 3, iv 0, iv 0, iv 1, iv 0, iv 0, iv 0, .s 0 0 2 2, .s 1 0 2 2, .v (.slice none 0 0)], .r 2 0 3 3], [⟨39, [iv 0, iv 0, iv 0, iv 1, iv 0, iv 0], 0, false, []⟩, ⟨41, [iv 1, iv 7, iv 2, iv 8], 0, false, []⟩, ⟨48, [iv 0, bo true, iv 0, bo true, iv 0, bo true], 2, false, []⟩], .v (.tuple #[(.agg #[(.int .i64 3), (.int .i64 24), (.int .i64 0), (.int .i64 1), (.string ⟨#[]⟩)]), (.agg #[(.int .i64 0), (.int .i64 0), (.int .i64 0), (.int .i64 0), (.bool false), (.bool false), (.int .i64 0)]), (.bool false)]), [], []⟩
def sn5 : Mo := ⟨27, 80, [1, 2, 79], [.v (.agg #[(.int .i64 3), (.int .i64 3), (.int .i64 0), (.int .i64 4), (.int .i64 0), (.int .i64 0), (.int .i64 1), (.int .i64 2), (.int .i64 3), (.int .i64 4), (.int .i64 16), (.int .i64 16), (.int .i64 28)]), iv 0, .g [iv 3, iv 0, iv 0, iv 1, iv 0, iv 0, iv 0, .s 0 0 2 2, .s 1 0 2 2, .v (.slice none 0 0)], .r 2 0 4 4], [⟨39, [iv 0, iv 0, iv 0, iv 1, iv 0, iv 0], 0, false, []⟩, ⟨41, [iv 1, iv 7, iv 2, iv 8], 0, false, []⟩, ⟨48, [iv 0, bo true, iv 0, bo true, iv 0, bo true, iv 0, bo true], 2, false, []⟩], .v (.tuple #[(.agg #[(.int .i64 1), (.int .i64 22), (.int .i64 0), (.int .i64 0), (.string ⟨#[]⟩)]), (.agg #[(.int .i64 0), (.int .i64 0), (.int .i64 0), (.int .i64 0), (.bool false), (.bool false), (.int .i64 0)]), (.bool false)]), [], []⟩
def sn6 : Mo := ⟨27, 95, [1, 2, 94], [.v (.agg #[(.int .i64 3), (.int .i64 3), (.int .i64 0), (.int .i64 4), (.int .i64 0), (.int .i64 0), (.int .i64 1), (.int .i64 2), (.int .i64 3), (.int .i64 4), (.int .i64 16), (.int .i64 16), (.int .i64 28)]), iv 0, .g [iv 3, iv 0, iv 0, iv 1, iv 0, iv 0, iv 0, .s 0 0 2 2, .s 1 0 2 2, .v (.slice none 0 0)], .r 2 0 5 5], [⟨39, [iv 0, iv 0, iv 0, iv 1, iv 0, iv 0], 0, false, []⟩, ⟨41, [iv 1, iv 7, iv 2, iv 8], 0, false, []⟩, ⟨48, [iv 0, bo true, iv 0, bo true, iv 0, bo true, iv 0, bo true, iv 0, bo true], 2, false, []⟩], .v (.tuple #[(.agg #[(.int .i64 1), (.int .i64 26), (.int .i64 0), (.int .i64 0), (.string ⟨#[]⟩)]), (.agg #[(.int .i64 0), (.int .i64 0), (.int .i64 0), (.int .i64 0), (.bool false), (.bool false), (.int .i64 0)]), (.bool false)]), [], []⟩
def sn7 : Mo := ⟨27, 110, [1, 2, 109], [.v (.agg #[(.int .i64 3), (.int .i64 3), (.int .i64 0), (.int .i64 4), (.int .i64 0), (.int .i64 0), (.int .i64 1), (.int .i64 2), (.int .i64 3), (.int .i64 4), (.int .i64 16), (.int .i64 16), (.int .i64 28)]), iv 0, .g [iv 3, iv 0, iv 0, iv 1, iv 0, iv 0, iv 0, .s 0 0 2 2, .s 1 0 2 2, .v (.slice none 0 0)], .r 2 0 6 6], [⟨39, [iv 0, iv 0, iv 0, iv 1, iv 0, iv 0], 0, false, []⟩, ⟨41, [iv 1, iv 7, iv 2, iv 8], 0, false, []⟩, ⟨48, [iv 0, bo true, iv 0, bo true, iv 0, bo true, iv 0, bo true, iv 0, bo true, iv 0, bo true], 2, false, []⟩], .v (.tuple #[(.agg #[(.int .i64 3), (.int .i64 4), (.int .i64 5), (.int .i64 6), (.string ⟨#[]⟩)]), (.agg #[(.int .i64 0), (.int .i64 0), (.int .i64 0), (.int .i64 0), (.bool false), (.bool false), (.int .i64 0)]), (.bool false)]), [], []⟩
def sn8 : Mo := ⟨27, 131, [1, 2, 130], [.v (.agg #[(.int .i64 3), (.int .i64 3), (.int .i64 0), (.int .i64 4), (.int .i64 0), (.int .i64 0), (.int .i64 1), (.int .i64 2), (.int .i64 3), (.int .i64 4), (.int .i64 16), (.int .i64 16), (.int .i64 28)]), iv 0, .g [iv 3, iv 0, iv 0, iv 1, iv 0, iv 0, iv 0, .s 0 0 2 2, .s 1 0 2 2, .v (.slice none 0 0)], .r 2 0 7 7], [⟨39, [iv 0, iv 0, iv 0, iv 1, iv 0, iv 0], 0, false, []⟩, ⟨41, [iv 1, iv 7, iv 2, iv 8], 0, false, []⟩, ⟨48, [iv 0, bo true, iv 0, bo true, iv 0, bo true, iv 0, bo true, iv 0, bo true, iv 0, bo true, iv 5, bo true], 2, false, []⟩], .v (.tuple #[(.agg #[(.int .i64 4), (.int .i64 0), (.int .i64 0), (.int .i64 1), (.string ⟨#[]⟩)]), (.agg #[(.int .i64 0), (.int .i64 0), (.int .i64 0), (.int .i64 0), (.bool false), (.bool false), (.int .i64 0)]), (.bool false)]), [], []⟩
def sn9 : Mo := ⟨27, 152, [1, 2, 151], [.v (.agg #[(.int .i64 3), (.int .i64 3), (.int .i64 0), (.int .i64 4), (.int .i64 0), (.int .i64 0), (.int .i64 1), (.int .i64 2), (.int .i64 3), (.int .i64 4), (.int .i64 16), (.int .i64 16), (.int .i64 28)]), iv 0, .g [iv 3, iv 0, iv 0, iv 1, iv 0, iv 0, iv 0, .s 0 0 2 2, .s 1 0 2 2, .v (.slice none 0 0)], .r 2 0 8 8], [⟨39, [iv 0, iv 0, iv 0, iv 1, iv 0, iv 0], 0, false, []⟩, ⟨41, [iv 1, iv 7, iv 2, iv 8], 0, false, []⟩, ⟨48, [iv 0, bo true, iv 0, bo true, iv 0, bo true, iv 0, bo true, iv 0, bo true, iv 0, bo true, iv 5, bo true, iv 0, bo true], 2, false, []⟩], .v (.tuple #[(.agg #[(.int .i64 1), (.int .i64 16), (.int .i64 0), (.int .i64 0), (.string ⟨#[]⟩)]), (.agg #[(.int .i64 0), (.int .i64 0), (.int .i64 0), (.int .i64 0), (.bool false), (.bool false), (.int .i64 0)]), (.bool false)]), [], []⟩
def sn10 : Mo := ⟨27, 167, [1, 2, 166], [.v (.agg #[(.int .i64 3), (.int .i64 3), (.int .i64 0), (.int .i64 4), (.int .i64 0), (.int .i64 0), (.int .i64 1), (.int .i64 2), (.int .i64 3), (.int .i64 4), (.int .i64 16), (.int .i64 16), (.int .i64 28)]), iv 0, .g [iv 3, iv 0, iv 0, iv 1, iv 0, iv 0, iv 0, .s 0 0 2 2, .s 1 0 2 2, .v (.slice none 0 0)], .r 2 0 9 9], [⟨39, [iv 0, iv 0, iv 0, iv 1, iv 0, iv 0], 0, false, []⟩, ⟨41, [iv 1, iv 7, iv 2, iv 8], 0, false, []⟩, ⟨48, [iv 0, bo true, iv 0, bo true, iv 0, bo true, iv 0, bo true, iv 0, bo true, iv 0, bo true, iv 5, bo true, iv 0, bo true, iv 0, bo true], 2, false, []⟩], .v (.tuple #[(.agg #[(.int .i64 1), (.int .i64 20), (.int .i64 0), (.int .i64 0), (.string ⟨#[]⟩)]), (.agg #[(.int .i64 0), (.int .i64 0), (.int .i64 0), (.int .i64 0), (.bool false), (.bool false), (.int .i64 0)]), (.bool false)]), [], []⟩
def sn11 : Mo := ⟨27, 182, [1, 2, 181], [.v (.agg #[(.int .i64 3), (.int .i64 3), (.int .i64 0), (.int .i64 4), (.int .i64 0), (.int .i64 0), (.int .i64 1), (.int .i64 2), (.int .i64 3), (.int .i64 4), (.int .i64 16), (.int .i64 16), (.int .i64 28)]), iv 0, .g [iv 3, iv 0, iv 0, iv 1, iv 0, iv 0, iv 0, .s 0 0 2 2, .s 1 0 2 2, .v (.slice none 0 0)], .r 2 0 10 10], [⟨39, [iv 0, iv 0, iv 0, iv 1, iv 0, iv 0], 0, false, []⟩, ⟨41, [iv 1, iv 7, iv 2, iv 8], 0, false, []⟩, ⟨48, [iv 0, bo true, iv 0, bo true, iv 0, bo true, iv 0, bo true, iv 0, bo true, iv 0, bo true, iv 5, bo true, iv 0, bo true, iv 0, bo true, iv 1, bo true], 2, false, []⟩], .v (.tuple #[(.agg #[(.int .i64 2), (.int .i64 21), (.int .i64 0), (.int .i64 7), (.string ⟨#[]⟩)]), (.agg #[(.int .i64 0), (.int .i64 0), (.int .i64 0), (.int .i64 0), (.bool false), (.bool false), (.int .i64 0)]), (.bool false)]), [], []⟩
def sn12 : Mo := ⟨27, 203, [1, 2, 202], [.v (.agg #[(.int .i64 3), (.int .i64 3), (.int .i64 0), (.int .i64 4), (.int .i64 0), (.int .i64 0), (.int .i64 1), (.int .i64 2), (.int .i64 3), (.int .i64 4), (.int .i64 16), (.int .i64 16), (.int .i64 28)]), iv 0, .g [iv 3, iv 0, iv 0, iv 1, iv 0, iv 0, iv 0, .s 0 0 2 2, .s 1 0 2 2, .v (.slice none 0 0)], .r 2 0 11 11], [⟨39, [iv 0, iv 0, iv 0, iv 1, iv 0, iv 0], 0, false, []⟩, ⟨41, [iv 1, iv 7, iv 2, iv 8], 0, false, []⟩, ⟨48, [iv 0, bo true, iv 0, bo true, iv 0, bo true, iv 0, bo true, iv 0, bo true, iv 0, bo true, iv 5, bo true, iv 0, bo true, iv 0, bo true, iv 1, bo true, iv 0, bo true], 2, false, []⟩], .v (.tuple #[(.agg #[(.int .i64 2), (.int .i64 25), (.int .i64 0), (.int .i64 8), (.string ⟨#[]⟩)]), (.agg #[(.int .i64 0), (.int .i64 0), (.int .i64 0), (.int .i64 0), (.bool false), (.bool false), (.int .i64 0)]), (.bool false)]), [], []⟩
def sn13 : Mo := ⟨27, 224, [1, 2, 223], [.v (.agg #[(.int .i64 3), (.int .i64 3), (.int .i64 0), (.int .i64 4), (.int .i64 0), (.int .i64 0), (.int .i64 1), (.int .i64 2), (.int .i64 3), (.int .i64 4), (.int .i64 16), (.int .i64 16), (.int .i64 28)]), iv 0, .g [iv 3, iv 0, iv 0, iv 1, iv 0, iv 0, iv 0, .s 0 0 2 2, .s 1 0 2 2, .v (.slice none 0 0)], .r 2 0 12 12], [⟨39, [iv 0, iv 0, iv 0, iv 1, iv 0, iv 0], 0, false, []⟩, ⟨41, [iv 1, iv 7, iv 2, iv 8], 0, false, []⟩, ⟨48, [iv 0, bo true, iv 0, bo true, iv 0, bo true, iv 0, bo true, iv 0, bo true, iv 0, bo true, iv 5, bo true, iv 0, bo true, iv 0, bo true, iv 1, bo true, iv 0, bo true, iv 0, bo true], 2, false, []⟩], .v (.tuple #[(.agg #[(.int .i64 2), (.int .i64 20), (.int .i64 0), (.int .i64 2), (.string ⟨#[]⟩)]), (.agg #[(.int .i64 0), (.int .i64 0), (.int .i64 0), (.int .i64 0), (.bool false), (.bool false), (.int .i64 0)]), (.bool false)]), [], []⟩
def sn14 : Mo := ⟨27, 245, [1, 2, 244], [.v (.agg #[(.int .i64 3), (.int .i64 3), (.int .i64 0), (.int .i64 4), (.int .i64 0), (.int .i64 0), (.int .i64 1), (.int .i64 2), (.int .i64 3), (.int .i64 4), (.int .i64 16), (.int .i64 16), (.int .i64 28)]), iv 0, .g [iv 3, iv 0, iv 0, iv 1, iv 0, iv 0, iv 0, .s 0 0 2 2, .s 1 0 2 2, .v (.slice none 0 0)], .r 2 0 13 13], [⟨39, [iv 0, iv 0, iv 0, iv 1, iv 0, iv 0], 0, false, []⟩, ⟨41, [iv 1, iv 7, iv 2, iv 8], 0, false, []⟩, ⟨48, [iv 0, bo true, iv 0, bo true, iv 0, bo true, iv 0, bo true, iv 0, bo true, iv 0, bo true, iv 5, bo true, iv 0, bo true, iv 0, bo true, iv 1, bo true, iv 0, bo true, iv 0, bo true, iv 1, bo true], 2, false, []⟩], .v (.tuple #[(.agg #[(.int .i64 2), (.int .i64 24), (.int .i64 0), (.int .i64 2), (.string ⟨#[]⟩)]), (.agg #[(.int .i64 0), (.int .i64 0), (.int .i64 0), (.int .i64 0), (.bool false), (.bool false), (.int .i64 0)]), (.bool false)]), [], []⟩
def sn15 : Mo := ⟨27, 266, [1, 2, 265], [.v (.agg #[(.int .i64 3), (.int .i64 3), (.int .i64 0), (.int .i64 4), (.int .i64 0), (.int .i64 0), (.int .i64 1), (.int .i64 2), (.int .i64 3), (.int .i64 4), (.int .i64 16), (.int .i64 16), (.int .i64 28)]), iv 0, .g [iv 3, iv 0, iv 0, iv 1, iv 0, iv 0, iv 0, .s 0 0 2 2, .s 1 0 2 2, .v (.slice none 0 0)], .r 2 0 14 14], [⟨39, [iv 0, iv 0, iv 0, iv 1, iv 0, iv 0], 0, false, []⟩, ⟨41, [iv 1, iv 7, iv 2, iv 8], 0, false, []⟩, ⟨48, [iv 0, bo true, iv 0, bo true, iv 0, bo true, iv 0, bo true, iv 0, bo true, iv 0, bo true, iv 5, bo true, iv 0, bo true, iv 0, bo true, iv 1, bo true, iv 0, bo true, iv 0, bo true, iv 1, bo true, iv 1, bo true], 2, false, []⟩], .v (.tuple #[(.agg #[(.int .i64 1), (.int .i64 23), (.int .i64 0), (.int .i64 0), (.string ⟨#[]⟩)]), (.agg #[(.int .i64 0), (.int .i64 0), (.int .i64 0), (.int .i64 0), (.bool false), (.bool false), (.int .i64 0)]), (.bool false)]), [], []⟩
def sn16 : Mo := ⟨27, 281, [1, 2, 280], [.v (.agg #[(.int .i64 3), (.int .i64 3), (.int .i64 0), (.int .i64 4), (.int .i64 0), (.int .i64 0), (.int .i64 1), (.int .i64 2), (.int .i64 3), (.int .i64 4), (.int .i64 16), (.int .i64 16), (.int .i64 28)]), iv 0, .g [iv 3, iv 0, iv 0, iv 1, iv 0, iv 0, iv 0, .s 0 0 2 2, .s 1 0 2 2, .v (.slice none 0 0)], .r 2 0 15 15], [⟨39, [iv 0, iv 0, iv 0, iv 1, iv 0, iv 0], 0, false, []⟩, ⟨41, [iv 1, iv 7, iv 2, iv 8], 0, false, []⟩, ⟨48, [iv 0, bo true, iv 0, bo true, iv 0, bo true, iv 0, bo true, iv 0, bo true, iv 0, bo true, iv 5, bo true, iv 0, bo true, iv 0, bo true, iv 1, bo true, iv 0, bo true, iv 0, bo true, iv 1, bo true, iv 1, bo true, iv 0, bo true], 2, false, []⟩], .v (.tuple #[(.agg #[(.int .i64 1), (.int .i64 27), (.int .i64 0), (.int .i64 0), (.string ⟨#[]⟩)]), (.agg #[(.int .i64 0), (.int .i64 0), (.int .i64 0), (.int .i64 0), (.bool false), (.bool false), (.int .i64 0)]), (.bool false)]), [], []⟩
def sn17 : Mo := ⟨27, 296, [1, 2, 295], [.v (.agg #[(.int .i64 3), (.int .i64 3), (.int .i64 0), (.int .i64 4), (.int .i64 0), (.int .i64 0), (.int .i64 1), (.int .i64 2), (.int .i64 3), (.int .i64 4), (.int .i64 16), (.int .i64 16), (.int .i64 28)]), iv 0, .g [iv 3, iv 0, iv 0, iv 1, iv 0, iv 0, iv 0, .s 0 0 2 2, .s 1 0 2 2, .v (.slice none 0 0)], .r 2 0 16 16], [⟨39, [iv 0, iv 0, iv 0, iv 1, iv 0, iv 0], 0, false, []⟩, ⟨41, [iv 1, iv 7, iv 2, iv 8], 0, false, []⟩, ⟨48, [iv 0, bo true, iv 0, bo true, iv 0, bo true, iv 0, bo true, iv 0, bo true, iv 0, bo true, iv 5, bo true, iv 0, bo true, iv 0, bo true, iv 1, bo true, iv 0, bo true, iv 0, bo true, iv 1, bo true, iv 1, bo true, iv 0, bo true, iv 0, bo true], 2, false, []⟩], .v (.tuple #[(.agg #[(.int .i64 2), (.int .i64 4), (.int .i64 0), (.int .i64 0), (.string ⟨#[]⟩)]), (.agg #[(.int .i64 0), (.int .i64 0), (.int .i64 0), (.int .i64 0), (.bool false), (.bool false), (.int .i64 0)]), (.bool false)]), [], []⟩
def sn18 : Mo := ⟨27, 317, [1, 2, 316], [.v (.agg #[(.int .i64 3), (.int .i64 3), (.int .i64 0), (.int .i64 4), (.int .i64 0), (.int .i64 0), (.int .i64 1), (.int .i64 2), (.int .i64 3), (.int .i64 4), (.int .i64 16), (.int .i64 16), (.int .i64 28)]), iv 0, .g [iv 3, iv 0, iv 0, iv 1, iv 0, iv 0, iv 0, .s 0 0 2 2, .s 1 0 2 2, .v (.slice none 0 0)], .r 2 0 17 17], [⟨39, [iv 0, iv 0, iv 0, iv 1, iv 0, iv 0], 0, false, []⟩, ⟨41, [iv 1, iv 7, iv 2, iv 8], 0, false, []⟩, ⟨48, [iv 0, bo true, iv 0, bo true, iv 0, bo true, iv 0, bo true, iv 0, bo true, iv 0, bo true, iv 5, bo true, iv 0, bo true, iv 0, bo true, iv 1, bo true, iv 0, bo true, iv 0, bo true, iv 1, bo true, iv 1, bo true, iv 0, bo true, iv 0, bo true, iv 6, bo true], 2, false, []⟩], .v (.tuple #[(.agg #[(.int .i64 0), (.int .i64 0), (.int .i64 0), (.int .i64 0), (.string ⟨#[]⟩)]), (.agg #[(.int .i64 0), (.int .i64 1), (.int .i64 0), (.int .i64 0), (.bool true), (.bool false), (.int .i64 0)]), (.bool true)]), [], []⟩
def sn19 : Mo := ⟨15, 13, [8, 11, 12, 9, 10], [.v (.agg #[(.int .i64 3), (.int .i64 3), (.int .i64 0), (.int .i64 4), (.int .i64 0), (.int .i64 0), (.int .i64 1), (.int .i64 2), (.int .i64 3), (.int .i64 4), (.int .i64 16), (.int .i64 16), (.int .i64 28)]), .p 0 0, iv 0, .g [iv 3, iv 0, iv 0, iv 1, iv 0, iv 0, iv 0, .s 1 0 2 2, .s 2 0 2 2, .v (.slice none 0 0)]], [⟨56, [.s 3 0 28 28, .s 4 0 4 4], 0, false, []⟩, ⟨39, [iv 0, iv 0, iv 0, iv 1, iv 0, iv 0], 0, false, []⟩, ⟨41, [iv 1, iv 7, iv 2, iv 8], 0, false, []⟩, ⟨3, [iv 0, iv 0, iv 0, iv 0, iv 5, iv 1, iv 0, iv 0, iv 5, iv 2, iv 0, iv 0, iv 5, iv 3, iv 0, iv 0, iv 0, iv 0, iv 0, iv 0, iv 0, iv 0, iv 0, iv 0, iv 0, iv 0, iv 0, iv 0], 0, false, []⟩, ⟨9, [.v (.string ⟨#[]⟩), .v (.string ⟨#[]⟩), .v (.string ⟨#[]⟩), .v (.string ⟨#[]⟩)], 0, false, []⟩], .v (.tuple #[(.agg #[(.int .i64 0), (.int .i64 1), (.int .i64 0), (.int .i64 0), (.bool true), (.bool false), (.int .i64 0)]), (.int .i64 17)]), [(0, some ⟨56, [.s 5 0 28 28, .s 4 0 4 4], 0, false, []⟩)], [⟨3, [iv 1, iv 0, iv 0, iv 0, iv 0, iv 1, iv 0, iv 0, iv 5, iv 2, iv 0, iv 0, iv 5, iv 3, iv 0, iv 0, iv 0, iv 0, iv 0, iv 0, iv 2, iv 7, iv 0, iv 0, iv 2, iv 8, iv 0, iv 0], 0, false, []⟩]⟩
def sn20 : Mo := ⟨27, 7, [1], [.v (.agg #[(.int .i64 3), (.int .i64 3), (.int .i64 0), (.int .i64 4), (.int .i64 0), (.int .i64 0), (.int .i64 1), (.int .i64 2), (.int .i64 3), (.int .i64 4), (.int .i64 16), (.int .i64 16), (.int .i64 28)]), iv 1, .g [iv 3, iv 0, iv 0, iv 1, iv 0, iv 0, iv 0, .s 0 0 1 1, .v (.slice none 0 0), .v (.slice none 0 0)], .v (.slice none 0 0)], [⟨39, [iv 1, iv 1, iv 7], 0, false, []⟩], .v (.tuple #[(.agg #[(.int .i64 1), (.int .i64 8), (.int .i64 0), (.int .i64 0), (.string ⟨#[]⟩)]), (.agg #[(.int .i64 0), (.int .i64 0), (.int .i64 0), (.int .i64 0), (.bool false), (.bool false), (.int .i64 0)]), (.bool false)]), [], []⟩
def sn21 : Mo := ⟨27, 22, [1, 21], [.v (.agg #[(.int .i64 3), (.int .i64 3), (.int .i64 0), (.int .i64 4), (.int .i64 0), (.int .i64 0), (.int .i64 1), (.int .i64 2), (.int .i64 3), (.int .i64 4), (.int .i64 16), (.int .i64 16), (.int .i64 28)]), iv 1, .g [iv 3, iv 0, iv 0, iv 1, iv 0, iv 0, iv 0, .s 0 0 1 1, .v (.slice none 0 0), .v (.slice none 0 0)], .r 1 0 1 1], [⟨39, [iv 1, iv 1, iv 7], 0, false, []⟩, ⟨48, [iv 5, bo true], 2, false, []⟩], .v (.tuple #[(.agg #[(.int .i64 2), (.int .i64 8), (.int .i64 0), (.int .i64 0), (.string ⟨#[]⟩)]), (.agg #[(.int .i64 0), (.int .i64 0), (.int .i64 0), (.int .i64 0), (.bool false), (.bool false), (.int .i64 0)]), (.bool false)]), [], []⟩
def sn22 : Mo := ⟨27, 43, [1, 42], [.v (.agg #[(.int .i64 3), (.int .i64 3), (.int .i64 0), (.int .i64 4), (.int .i64 0), (.int .i64 0), (.int .i64 1), (.int .i64 2), (.int .i64 3), (.int .i64 4), (.int .i64 16), (.int .i64 16), (.int .i64 28)]), iv 1, .g [iv 3, iv 0, iv 0, iv 1, iv 0, iv 0, iv 0, .s 0 0 1 1, .v (.slice none 0 0), .v (.slice none 0 0)], .r 1 0 2 2], [⟨39, [iv 1, iv 1, iv 7], 0, false, []⟩, ⟨48, [iv 5, bo true, iv 5, bo true], 2, false, []⟩], .v (.tuple #[(.agg #[(.int .i64 0), (.int .i64 0), (.int .i64 0), (.int .i64 0), (.string ⟨#[]⟩)]), (.agg #[(.int .i64 0), (.int .i64 0), (.int .i64 0), (.int .i64 0), (.bool true), (.bool false), (.int .i64 0)]), (.bool true)]), [], []⟩
def sn23 : Mo := ⟨15, 16, [8, 15, 13, 10], [.v (.agg #[(.int .i64 3), (.int .i64 3), (.int .i64 0), (.int .i64 4), (.int .i64 0), (.int .i64 0), (.int .i64 1), (.int .i64 2), (.int .i64 3), (.int .i64 4), (.int .i64 16), (.int .i64 16), (.int .i64 28)]), .p 0 0, iv 1, .g [iv 3, iv 0, iv 0, iv 1, iv 0, iv 0, iv 0, .s 1 0 1 1, .v (.slice none 0 0), .v (.slice none 0 0)]], [⟨56, [.s 2 0 28 28, .s 3 0 4 4], 0, false, []⟩, ⟨39, [iv 1, iv 1, iv 7], 0, false, []⟩, ⟨3, [iv 1, iv 0, iv 0, iv 0, iv 0, iv 1, iv 0, iv 0, iv 5, iv 2, iv 0, iv 0, iv 5, iv 3, iv 0, iv 0, iv 0, iv 0, iv 0, iv 0, iv 2, iv 7, iv 0, iv 0, iv 2, iv 8, iv 0, iv 0], 0, false, []⟩, ⟨9, [.v (.string ⟨#[]⟩), .v (.string ⟨#[]⟩), .v (.string ⟨#[]⟩), .v (.string ⟨#[]⟩)], 0, false, []⟩], .v (.tuple #[(.agg #[(.int .i64 0), (.int .i64 0), (.int .i64 0), (.int .i64 0), (.bool true), (.bool false), (.int .i64 0)]), (.int .i64 2)]), [(0, some ⟨56, [.s 4 0 28 28, .s 3 0 4 4], 0, false, []⟩)], [⟨3, [iv 1, iv 0, iv 0, iv 0, iv 0, iv 1, iv 0, iv 0, iv 0, iv 2, iv 0, iv 0, iv 5, iv 3, iv 0, iv 0, iv 0, iv 0, iv 0, iv 0, iv 2, iv 7, iv 0, iv 0, iv 2, iv 8, iv 0, iv 0], 0, false, []⟩]⟩
def sn24 : Mo := ⟨27, 8, [1, 2], [.v (.agg #[(.int .i64 3), (.int .i64 3), (.int .i64 0), (.int .i64 4), (.int .i64 0), (.int .i64 0), (.int .i64 1), (.int .i64 2), (.int .i64 3), (.int .i64 4), (.int .i64 16), (.int .i64 16), (.int .i64 28)]), iv 2, .g [iv 3, iv 0, iv 0, iv 1, iv 0, iv 0, iv 0, .s 0 0 1 1, .s 1 0 1 1, .v (.slice none 0 0)], .v (.slice none 0 0)], [⟨39, [iv 1, iv 0, iv 0], 0, false, []⟩, ⟨41, [iv 0, iv 9], 0, false, []⟩], .v (.tuple #[(.agg #[(.int .i64 1), (.int .i64 16), (.int .i64 0), (.int .i64 0), (.string ⟨#[]⟩)]), (.agg #[(.int .i64 0), (.int .i64 0), (.int .i64 0), (.int .i64 0), (.bool false), (.bool false), (.int .i64 0)]), (.bool false)]), [], []⟩
def sn25 : Mo := ⟨27, 23, [1, 2, 22], [.v (.agg #[(.int .i64 3), (.int .i64 3), (.int .i64 0), (.int .i64 4), (.int .i64 0), (.int .i64 0), (.int .i64 1), (.int .i64 2), (.int .i64 3), (.int .i64 4), (.int .i64 16), (.int .i64 16), (.int .i64 28)]), iv 2, .g [iv 3, iv 0, iv 0, iv 1, iv 0, iv 0, iv 0, .s 0 0 1 1, .s 1 0 1 1, .v (.slice none 0 0)], .r 2 0 1 1], [⟨39, [iv 1, iv 0, iv 0], 0, false, []⟩, ⟨41, [iv 0, iv 9], 0, false, []⟩, ⟨48, [iv 0, bo true], 2, false, []⟩], .v (.tuple #[(.agg #[(.int .i64 3), (.int .i64 16), (.int .i64 0), (.int .i64 5), (.string ⟨#[]⟩)]), (.agg #[(.int .i64 0), (.int .i64 0), (.int .i64 0), (.int .i64 0), (.bool false), (.bool false), (.int .i64 0)]), (.bool false)]), [], []⟩
def sn26 : Mo := ⟨27, 44, [1, 2, 43], [.v (.agg #[(.int .i64 3), (.int .i64 3), (.int .i64 0), (.int .i64 4), (.int .i64 0), (.int .i64 0), (.int .i64 1), (.int .i64 2), (.int .i64 3), (.int .i64 4), (.int .i64 16), (.int .i64 16), (.int .i64 28)]), iv 2, .g [iv 3, iv 0, iv 0, iv 1, iv 0, iv 0, iv 0, .s 0 0 1 1, .s 1 0 1 1, .v (.slice none 0 0)], .r 2 0 2 2], [⟨39, [iv 1, iv 0, iv 0], 0, false, []⟩, ⟨41, [iv 0, iv 9], 0, false, []⟩, ⟨48, [iv 0, bo true, iv 0, bo true], 2, false, []⟩], .v (.tuple #[(.agg #[(.int .i64 1), (.int .i64 18), (.int .i64 0), (.int .i64 0), (.string ⟨#[]⟩)]), (.agg #[(.int .i64 0), (.int .i64 0), (.int .i64 0), (.int .i64 0), (.bool false), (.bool false), (.int .i64 0)]), (.bool false)]), [], []⟩
def sn27 : Mo := ⟨27, 59, [1, 2, 58], [.v (.agg #[(.int .i64 3), (.int .i64 3), (.int .i64 0), (.int .i64 4), (.int .i64 0), (.int .i64 0), (.int .i64 1), (.int .i64 2), (.int .i64 3), (.int .i64 4), (.int .i64 16), (.int .i64 16), (.int .i64 28)]), iv 2, .g [iv 3, iv 0, iv 0, iv 1, iv 0, iv 0, iv 0, .s 0 0 1 1, .s 1 0 1 1, .v (.slice none 0 0)], .r 2 0 3 3], [⟨39, [iv 1, iv 0, iv 0], 0, false, []⟩, ⟨41, [iv 0, iv 9], 0, false, []⟩, ⟨48, [iv 0, bo true, iv 0, bo true, iv 0, bo true], 2, false, []⟩], .v (.tuple #[(.agg #[(.int .i64 3), (.int .i64 12), (.int .i64 5), (.int .i64 6), (.string ⟨#[]⟩)]), (.agg #[(.int .i64 0), (.int .i64 0), (.int .i64 0), (.int .i64 0), (.bool false), (.bool false), (.int .i64 0)]), (.bool false)]), [], []⟩
def sn28 : Mo := ⟨27, 80, [1, 2, 79], [.v (.agg #[(.int .i64 3), (.int .i64 3), (.int .i64 0), (.int .i64 4), (.int .i64 0), (.int .i64 0), (.int .i64 1), (.int .i64 2), (.int .i64 3), (.int .i64 4), (.int .i64 16), (.int .i64 16), (.int .i64 28)]), iv 2, .g [iv 3, iv 0, iv 0, iv 1, iv 0, iv 0, iv 0, .s 0 0 1 1, .s 1 0 1 1, .v (.slice none 0 0)], .r 2 0 4 4], [⟨39, [iv 1, iv 0, iv 0], 0, false, []⟩, ⟨41, [iv 0, iv 9], 0, false, []⟩, ⟨48, [iv 0, bo true, iv 0, bo true, iv 0, bo true, iv 5, bo true], 2, false, []⟩], .v (.tuple #[(.agg #[(.int .i64 4), (.int .i64 0), (.int .i64 0), (.int .i64 1), (.string ⟨#[]⟩)]), (.agg #[(.int .i64 0), (.int .i64 0), (.int .i64 0), (.int .i64 0), (.bool false), (.bool false), (.int .i64 0)]), (.bool false)]), [], []⟩
def sn29 : Mo := ⟨27, 101, [1, 2, 100], [.v (.agg #[(.int .i64 3), (.int .i64 3), (.int .i64 0), (.int .i64 4), (.int .i64 0), (.int .i64 0), (.int .i64 1), (.int .i64 2), (.int .i64 3), (.int .i64 4), (.int .i64 16), (.int .i64 16), (.int .i64 28)]), iv 2, .g [iv 3, iv 0, iv 0, iv 1, iv 0, iv 0, iv 0, .s 0 0 1 1, .s 1 0 1 1, .v (.slice none 0 0)], .r 2 0 5 5], [⟨39, [iv 1, iv 0, iv 0], 0, false, []⟩, ⟨41, [iv 0, iv 9], 0, false, []⟩, ⟨48, [iv 0, bo true, iv 0, bo true, iv 0, bo true, iv 5, bo true, iv 1, bo true], 2, false, []⟩], .v (.tuple #[(.agg #[(.int .i64 1), (.int .i64 20), (.int .i64 0), (.int .i64 0), (.string ⟨#[]⟩)]), (.agg #[(.int .i64 0), (.int .i64 0), (.int .i64 0), (.int .i64 0), (.bool false), (.bool false), (.int .i64 0)]), (.bool false)]), [], []⟩
def sn30 : Mo := ⟨27, 116, [1, 2, 115], [.v (.agg #[(.int .i64 3), (.int .i64 3), (.int .i64 0), (.int .i64 4), (.int .i64 0), (.int .i64 0), (.int .i64 1), (.int .i64 2), (.int .i64 3), (.int .i64 4), (.int .i64 16), (.int .i64 16), (.int .i64 28)]), iv 2, .g [iv 3, iv 0, iv 0, iv 1, iv 0, iv 0, iv 0, .s 0 0 1 1, .s 1 0 1 1, .v (.slice none 0 0)], .r 2 0 6 6], [⟨39, [iv 1, iv 0, iv 0], 0, false, []⟩, ⟨41, [iv 0, iv 9], 0, false, []⟩, ⟨48, [iv 0, bo true, iv 0, bo true, iv 0, bo true, iv 5, bo true, iv 1, bo true, iv 2, bo true], 2, false, []⟩], .v (.tuple #[(.agg #[(.int .i64 2), (.int .i64 16), (.int .i64 0), (.int .i64 0), (.string ⟨#[]⟩)]), (.agg #[(.int .i64 0), (.int .i64 0), (.int .i64 0), (.int .i64 0), (.bool false), (.bool false), (.int .i64 0)]), (.bool false)]), [], []⟩
def sn31 : Mo := ⟨27, 137, [1, 2, 136], [.v (.agg #[(.int .i64 3), (.int .i64 3), (.int .i64 0), (.int .i64 4), (.int .i64 0), (.int .i64 0), (.int .i64 1), (.int .i64 2), (.int .i64 3), (.int .i64 4), (.int .i64 16), (.int .i64 16), (.int .i64 28)]), iv 2, .g [iv 3, iv 0, iv 0, iv 1, iv 0, iv 0, iv 0, .s 0 0 1 1, .s 1 0 1 1, .v (.slice none 0 0)], .r 2 0 7 7], [⟨39, [iv 1, iv 0, iv 0], 0, false, []⟩, ⟨41, [iv 0, iv 9], 0, false, []⟩, ⟨48, [iv 0, bo true, iv 0, bo true, iv 0, bo true, iv 5, bo true, iv 1, bo true, iv 2, bo true, iv 5, bo true], 2, false, []⟩], .v (.tuple #[(.agg #[(.int .i64 0), (.int .i64 0), (.int .i64 0), (.int .i64 0), (.string ⟨#[]⟩)]), (.agg #[(.int .i64 0), (.int .i64 0), (.int .i64 0), (.int .i64 0), (.bool false), (.bool true), (.int .i64 0)]), (.bool true)]), [], []⟩
def sn32 : Mo := ⟨15, 20, [8, 18, 19, 16, 10], [.v (.agg #[(.int .i64 3), (.int .i64 3), (.int .i64 0), (.int .i64 4), (.int .i64 0), (.int .i64 0), (.int .i64 1), (.int .i64 2), (.int .i64 3), (.int .i64 4), (.int .i64 16), (.int .i64 16), (.int .i64 28)]), .p 0 0, iv 2, .g [iv 3, iv 0, iv 0, iv 1, iv 0, iv 0, iv 0, .s 1 0 1 1, .s 2 0 1 1, .v (.slice none 0 0)]], [⟨56, [.s 3 0 28 28, .s 4 0 4 4], 0, false, []⟩, ⟨39, [iv 1, iv 0, iv 0], 0, false, []⟩, ⟨41, [iv 0, iv 9], 0, false, []⟩, ⟨3, [iv 1, iv 0, iv 0, iv 0, iv 0, iv 1, iv 0, iv 0, iv 0, iv 2, iv 0, iv 0, iv 5, iv 3, iv 0, iv 0, iv 0, iv 0, iv 0, iv 0, iv 2, iv 7, iv 0, iv 0, iv 2, iv 8, iv 0, iv 0], 0, false, []⟩, ⟨9, [.v (.string ⟨#[]⟩), .v (.string ⟨#[]⟩), .v (.string ⟨#[]⟩), .v (.string ⟨#[]⟩)], 0, false, []⟩], .v (.tuple #[(.agg #[(.int .i64 0), (.int .i64 0), (.int .i64 0), (.int .i64 0), (.bool false), (.bool true), (.int .i64 0)]), (.int .i64 7)]), [(0, some ⟨56, [.s 5 0 28 28, .s 4 0 4 4], 0, false, []⟩)], [⟨3, [iv 2, iv 0, iv 0, iv 0, iv 0, iv 1, iv 0, iv 0, iv 0, iv 2, iv 0, iv 0, iv 6, iv 3, iv 0, iv 0, iv 0, iv 0, iv 0, iv 0, iv 2, iv 7, iv 0, iv 0, iv 2, iv 8, iv 0, iv 0], 0, false, []⟩]⟩
def sn33 : Mo := ⟨7, 22, [], [.v (.agg #[(.int .i64 3), (.int .i64 3), (.int .i64 0), (.int .i64 4), (.int .i64 0), (.int .i64 0), (.int .i64 1), (.int .i64 2), (.int .i64 3), (.int .i64 4), (.int .i64 16), (.int .i64 16), (.int .i64 28)])], [], .p 0 0, [], [⟨56, [.s 1 0 28 28, .s 2 0 4 4], 0, false, []⟩, ⟨3, [iv 0, iv 0, iv 0, iv 0, iv 5, iv 1, iv 0, iv 0, iv 5, iv 2, iv 0, iv 0, iv 5, iv 3, iv 0, iv 0, iv 0, iv 0, iv 0, iv 0, iv 0, iv 0, iv 0, iv 0, iv 0, iv 0, iv 0, iv 0], 0, false, []⟩, ⟨9, [.v (.string ⟨#[]⟩), .v (.string ⟨#[]⟩), .v (.string ⟨#[]⟩), .v (.string ⟨#[]⟩)], 0, false, []⟩]⟩
def sn34 : Mo := ⟨27, 8, [1, 2], [.v (.agg #[(.int .i64 3), (.int .i64 3), (.int .i64 0), (.int .i64 4), (.int .i64 0), (.int .i64 0), (.int .i64 1), (.int .i64 2), (.int .i64 3), (.int .i64 4), (.int .i64 16), (.int .i64 16), (.int .i64 28)]), iv 0, .g [iv 3, iv 0, iv 0, iv 1, iv 0, iv 0, iv 0, .v (.slice none 0 0), .s 0 0 1 1, .s 1 0 1 1], .v (.slice none 0 0)], [⟨41, [iv 0, iv 5], 0, false, []⟩, ⟨4, [bo true], 0, false, []⟩], .v (.tuple #[(.agg #[(.int .i64 1), (.int .i64 16), (.int .i64 0), (.int .i64 0), (.string ⟨#[]⟩)]), (.agg #[(.int .i64 0), (.int .i64 0), (.int .i64 0), (.int .i64 0), (.bool false), (.bool false), (.int .i64 0)]), (.bool false)]), [], []⟩
def sn35 : Mo := ⟨27, 23, [1, 2, 22], [.v (.agg #[(.int .i64 3), (.int .i64 3), (.int .i64 0), (.int .i64 4), (.int .i64 0), (.int .i64 0), (.int .i64 1), (.int .i64 2), (.int .i64 3), (.int .i64 4), (.int .i64 16), (.int .i64 16), (.int .i64 28)]), iv 0, .g [iv 3, iv 0, iv 0, iv 1, iv 0, iv 0, iv 0, .v (.slice none 0 0), .s 0 0 1 1, .s 1 0 1 1], .r 2 0 1 1], [⟨41, [iv 0, iv 5], 0, false, []⟩, ⟨4, [bo true], 0, false, []⟩, ⟨48, [iv 0, bo true], 2, false, []⟩], .v (.tuple #[(.agg #[(.int .i64 3), (.int .i64 16), (.int .i64 0), (.int .i64 1), (.string ⟨#[]⟩)]), (.agg #[(.int .i64 0), (.int .i64 0), (.int .i64 0), (.int .i64 0), (.bool false), (.bool false), (.int .i64 0)]), (.bool false)]), [], []⟩
def sn36 : Mo := ⟨27, 44, [1, 2, 43], [.v (.agg #[(.int .i64 3), (.int .i64 3), (.int .i64 0), (.int .i64 4), (.int .i64 0), (.int .i64 0), (.int .i64 1), (.int .i64 2), (.int .i64 3), (.int .i64 4), (.int .i64 16), (.int .i64 16), (.int .i64 28)]), iv 0, .g [iv 3, iv 0, iv 0, iv 1, iv 0, iv 0, iv 0, .v (.slice none 0 0), .s 0 0 1 1, .s 1 0 1 1], .r 2 0 2 2], [⟨41, [iv 0, iv 5], 0, false, []⟩, ⟨4, [bo true], 0, false, []⟩, ⟨48, [iv 0, bo true, iv 0, bo true], 2, false, []⟩], .v (.tuple #[(.agg #[(.int .i64 1), (.int .i64 18), (.int .i64 0), (.int .i64 0), (.string ⟨#[]⟩)]), (.agg #[(.int .i64 0), (.int .i64 0), (.int .i64 0), (.int .i64 0), (.bool false), (.bool false), (.int .i64 0)]), (.bool false)]), [], []⟩
def sn37 : Mo := ⟨27, 59, [1, 2, 58], [.v (.agg #[(.int .i64 3), (.int .i64 3), (.int .i64 0), (.int .i64 4), (.int .i64 0), (.int .i64 0), (.int .i64 1), (.int .i64 2), (.int .i64 3), (.int .i64 4), (.int .i64 16), (.int .i64 16), (.int .i64 28)]), iv 0, .g [iv 3, iv 0, iv 0, iv 1, iv 0, iv 0, iv 0, .v (.slice none 0 0), .s 0 0 1 1, .s 1 0 1 1], .r 2 0 3 3], [⟨41, [iv 0, iv 5], 0, false, []⟩, ⟨4, [bo true], 0, false, []⟩, ⟨48, [iv 0, bo true, iv 0, bo true, iv 0, bo true], 2, false, []⟩], .v (.tuple #[(.agg #[(.int .i64 3), (.int .i64 4), (.int .i64 5), (.int .i64 6), (.string ⟨#[]⟩)]), (.agg #[(.int .i64 0), (.int .i64 0), (.int .i64 0), (.int .i64 0), (.bool false), (.bool false), (.int .i64 0)]), (.bool false)]), [], []⟩
def sn38 : Mo := ⟨27, 80, [1, 2, 79], [.v (.agg #[(.int .i64 3), (.int .i64 3), (.int .i64 0), (.int .i64 4), (.int .i64 0), (.int .i64 0), (.int .i64 1), (.int .i64 2), (.int .i64 3), (.int .i64 4), (.int .i64 16), (.int .i64 16), (.int .i64 28)]), iv 0, .g [iv 3, iv 0, iv 0, iv 1, iv 0, iv 0, iv 0, .v (.slice none 0 0), .s 0 0 1 1, .s 1 0 1 1], .r 2 0 4 4], [⟨41, [iv 0, iv 5], 0, false, []⟩, ⟨4, [bo true], 0, false, []⟩, ⟨48, [iv 0, bo true, iv 0, bo true, iv 0, bo true, iv 5, bo true], 2, false, []⟩], .v (.tuple #[(.agg #[(.int .i64 3), (.int .i64 2), (.int .i64 0), (.int .i64 1), (.string ⟨#[]⟩)]), (.agg #[(.int .i64 0), (.int .i64 0), (.int .i64 0), (.int .i64 0), (.bool false), (.bool false), (.int .i64 0)]), (.bool false)]), [], []⟩
def sn39 : Mo := ⟨27, 101, [1, 2, 100], [.v (.agg #[(.int .i64 3), (.int .i64 3), (.int .i64 0), (.int .i64 4), (.int .i64 0), (.int .i64 0), (.int .i64 1), (.int .i64 2), (.int .i64 3), (.int .i64 4), (.int .i64 16), (.int .i64 16), (.int .i64 28)]), iv 0, .g [iv 3, iv 0, iv 0, iv 1, iv 0, iv 0, iv 0, .v (.slice none 0 0), .s 0 0 1 1, .s 1 0 1 1], .r 2 0 5 5], [⟨41, [iv 0, iv 5], 0, false, []⟩, ⟨4, [bo true], 0, false, []⟩, ⟨48, [iv 0, bo true, iv 0, bo true, iv 0, bo true, iv 5, bo true, iv 0, bo true], 2, false, []⟩], .v (.tuple #[(.agg #[(.int .i64 4), (.int .i64 0), (.int .i64 0), (.int .i64 1), (.string ⟨#[]⟩)]), (.agg #[(.int .i64 0), (.int .i64 0), (.int .i64 0), (.int .i64 0), (.bool false), (.bool false), (.int .i64 0)]), (.bool false)]), [], []⟩
def sn40 : Mo := ⟨27, 122, [1, 2, 121], [.v (.agg #[(.int .i64 3), (.int .i64 3), (.int .i64 0), (.int .i64 4), (.int .i64 0), (.int .i64 0), (.int .i64 1), (.int .i64 2), (.int .i64 3), (.int .i64 4), (.int .i64 16), (.int .i64 16), (.int .i64 28)]), iv 0, .g [iv 3, iv 0, iv 0, iv 1, iv 0, iv 0, iv 0, .v (.slice none 0 0), .s 0 0 1 1, .s 1 0 1 1], .r 2 0 6 6], [⟨41, [iv 0, iv 5], 0, false, []⟩, ⟨4, [bo true], 0, false, []⟩, ⟨48, [iv 0, bo true, iv 0, bo true, iv 0, bo true, iv 5, bo true, iv 0, bo true, iv 0, bo true], 2, false, []⟩], .v (.tuple #[(.agg #[(.int .i64 1), (.int .i64 3), (.int .i64 0), (.int .i64 0), (.string ⟨#[]⟩)]), (.agg #[(.int .i64 0), (.int .i64 0), (.int .i64 0), (.int .i64 0), (.bool false), (.bool false), (.int .i64 0)]), (.bool false)]), [], []⟩
def sn41 : Mo := ⟨27, 137, [1, 2, 136], [.v (.agg #[(.int .i64 3), (.int .i64 3), (.int .i64 0), (.int .i64 4), (.int .i64 0), (.int .i64 0), (.int .i64 1), (.int .i64 2), (.int .i64 3), (.int .i64 4), (.int .i64 16), (.int .i64 16), (.int .i64 28)]), iv 0, .g [iv 3, iv 0, iv 0, iv 1, iv 0, iv 0, iv 0, .v (.slice none 0 0), .s 0 0 1 1, .s 1 0 1 1], .r 2 0 7 7], [⟨41, [iv 0, iv 5], 0, false, []⟩, ⟨4, [bo true], 0, false, []⟩, ⟨48, [iv 0, bo true, iv 0, bo true, iv 0, bo true, iv 5, bo true, iv 0, bo true, iv 0, bo true, iv 0, bo true], 2, false, []⟩], .v (.tuple #[(.agg #[(.int .i64 5), (.int .i64 0), (.int .i64 0), (.int .i64 0), (.string ⟨#[0, 6, 2, 0, 10, 0, 0, 0, 0, 0, 0, 0, 0, 0, 0, 0, 0, 0, 0, 0, 0, 0, 0, 0, 0, 0, 0, 0, 19, 0, 226, 1]⟩)]), (.agg #[(.int .i64 0), (.int .i64 0), (.int .i64 0), (.int .i64 0), (.bool false), (.bool false), (.int .i64 0)]), (.bool false)]), [], []⟩
def sn42 : Mo := ⟨27, 144, [1, 2, 143], [.v (.agg #[(.int .i64 3), (.int .i64 3), (.int .i64 0), (.int .i64 4), (.int .i64 0), (.int .i64 0), (.int .i64 1), (.int .i64 2), (.int .i64 3), (.int .i64 4), (.int .i64 16), (.int .i64 16), (.int .i64 28)]), iv 0, .g [iv 3, iv 0, iv 0, iv 1, iv 0, iv 0, iv 0, .v (.slice none 0 0), .s 0 0 1 1, .s 1 0 1 1], .r 2 0 8 8], [⟨41, [iv 0, iv 5], 0, false, []⟩, ⟨4, [bo true], 0, false, []⟩, ⟨48, [iv 0, bo true, iv 0, bo true, iv 0, bo true, iv 5, bo true, iv 0, bo true, iv 0, bo true, iv 0, bo true, iv 0, bo true], 2, false, []⟩], .v (.tuple #[(.agg #[(.int .i64 6), (.int .i64 0), (.int .i64 0), (.int .i64 0), (.string ⟨#[]⟩)]), (.agg #[(.int .i64 0), (.int .i64 0), (.int .i64 0), (.int .i64 0), (.bool false), (.bool false), (.int .i64 0)]), (.bool false)]), [], []⟩
def sn43 : Mo := ⟨27, 151, [1, 2, 150], [.v (.agg #[(.int .i64 3), (.int .i64 3), (.int .i64 0), (.int .i64 4), (.int .i64 0), (.int .i64 0), (.int .i64 1), (.int .i64 2), (.int .i64 3), (.int .i64 4), (.int .i64 16), (.int .i64 16), (.int .i64 28)]), iv 0, .g [iv 3, iv 0, iv 0, iv 1, iv 0, iv 0, iv 0, .v (.slice none 0 0), .s 0 0 1 1, .s 1 0 1 1], .r 2 0 9 9], [⟨41, [iv 0, iv 5], 0, false, []⟩, ⟨4, [bo true], 0, false, []⟩, ⟨48, [iv 0, bo true, iv 0, bo true, iv 0, bo true, iv 5, bo true, iv 0, bo true, iv 0, bo true, iv 0, bo true, iv 0, bo true, iv 0, bo true], 2, false, []⟩], .v (.tuple #[(.agg #[(.int .i64 2), (.int .i64 3), (.int .i64 0), (.int .i64 1), (.string ⟨#[]⟩)]), (.agg #[(.int .i64 0), (.int .i64 0), (.int .i64 0), (.int .i64 0), (.bool false), (.bool false), (.int .i64 0)]), (.bool false)]), [], []⟩
def sn44 : Mo := ⟨27, 172, [1, 2, 171], [.v (.agg #[(.int .i64 3), (.int .i64 3), (.int .i64 0), (.int .i64 4), (.int .i64 0), (.int .i64 0), (.int .i64 1), (.int .i64 2), (.int .i64 3), (.int .i64 4), (.int .i64 16), (.int .i64 16), (.int .i64 28)]), iv 0, .g [iv 3, iv 0, iv 0, iv 1, iv 0, iv 0, iv 0, .v (.slice none 0 0), .s 0 0 1 1, .s 1 0 1 1], .r 2 0 10 10], [⟨41, [iv 0, iv 5], 0, false, []⟩, ⟨4, [bo true], 0, false, []⟩, ⟨48, [iv 0, bo true, iv 0, bo true, iv 0, bo true, iv 5, bo true, iv 0, bo true, iv 0, bo true, iv 0, bo true, iv 0, bo true, iv 0, bo true, iv 0, bo true], 2, false, []⟩], .v (.tuple #[(.agg #[(.int .i64 2), (.int .i64 2), (.int .i64 0), (.int .i64 0), (.string ⟨#[]⟩)]), (.agg #[(.int .i64 0), (.int .i64 0), (.int .i64 0), (.int .i64 0), (.bool false), (.bool false), (.int .i64 0)]), (.bool false)]), [], []⟩
def sn45 : Mo := ⟨27, 193, [1, 2, 192], [.v (.agg #[(.int .i64 3), (.int .i64 3), (.int .i64 0), (.int .i64 4), (.int .i64 0), (.int .i64 0), (.int .i64 1), (.int .i64 2), (.int .i64 3), (.int .i64 4), (.int .i64 16), (.int .i64 16), (.int .i64 28)]), iv 0, .g [iv 3, iv 0, iv 0, iv 1, iv 0, iv 0, iv 0, .v (.slice none 0 0), .s 0 0 1 1, .s 1 0 1 1], .r 2 0 11 11], [⟨41, [iv 0, iv 5], 0, false, []⟩, ⟨4, [bo true], 0, false, []⟩, ⟨48, [iv 0, bo true, iv 0, bo true, iv 0, bo true, iv 5, bo true, iv 0, bo true, iv 0, bo true, iv 0, bo true, iv 0, bo true, iv 0, bo true, iv 0, bo true, iv 1, bo true], 2, false, []⟩], .v (.tuple #[(.agg #[(.int .i64 2), (.int .i64 17), (.int .i64 0), (.int .i64 5), (.string ⟨#[]⟩)]), (.agg #[(.int .i64 0), (.int .i64 0), (.int .i64 0), (.int .i64 0), (.bool false), (.bool false), (.int .i64 0)]), (.bool false)]), [], []⟩
def sn46 : Mo := ⟨27, 214, [1, 2, 213], [.v (.agg #[(.int .i64 3), (.int .i64 3), (.int .i64 0), (.int .i64 4), (.int .i64 0), (.int .i64 0), (.int .i64 1), (.int .i64 2), (.int .i64 3), (.int .i64 4), (.int .i64 16), (.int .i64 16), (.int .i64 28)]), iv 0, .g [iv 3, iv 0, iv 0, iv 1, iv 0, iv 0, iv 0, .v (.slice none 0 0), .s 0 0 1 1, .s 1 0 1 1], .r 2 0 12 12], [⟨41, [iv 0, iv 5], 0, false, []⟩, ⟨4, [bo true], 0, false, []⟩, ⟨48, [iv 0, bo true, iv 0, bo true, iv 0, bo true, iv 5, bo true, iv 0, bo true, iv 0, bo true, iv 0, bo true, iv 0, bo true, iv 0, bo true, iv 0, bo true, iv 1, bo true, iv 0, bo true], 2, false, []⟩], .v (.tuple #[(.agg #[(.int .i64 2), (.int .i64 16), (.int .i64 0), (.int .i64 2), (.string ⟨#[]⟩)]), (.agg #[(.int .i64 0), (.int .i64 0), (.int .i64 0), (.int .i64 0), (.bool false), (.bool false), (.int .i64 0)]), (.bool false)]), [], []⟩
def sn47 : Mo := ⟨27, 235, [1, 2, 234], [.v (.agg #[(.int .i64 3), (.int .i64 3), (.int .i64 0), (.int .i64 4), (.int .i64 0), (.int .i64 0), (.int .i64 1), (.int .i64 2), (.int .i64 3), (.int .i64 4), (.int .i64 16), (.int .i64 16), (.int .i64 28)]), iv 0, .g [iv 3, iv 0, iv 0, iv 1, iv 0, iv 0, iv 0, .v (.slice none 0 0), .s 0 0 1 1, .s 1 0 1 1], .r 2 0 13 13], [⟨41, [iv 0, iv 5], 0, false, []⟩, ⟨4, [bo true], 0, false, []⟩, ⟨48, [iv 0, bo true, iv 0, bo true, iv 0, bo true, iv 5, bo true, iv 0, bo true, iv 0, bo true, iv 0, bo true, iv 0, bo true, iv 0, bo true, iv 0, bo true, iv 1, bo true, iv 0, bo true, iv 1, bo true], 2, false, []⟩], .v (.tuple #[(.agg #[(.int .i64 1), (.int .i64 19), (.int .i64 0), (.int .i64 0), (.string ⟨#[]⟩)]), (.agg #[(.int .i64 0), (.int .i64 0), (.int .i64 0), (.int .i64 0), (.bool false), (.bool false), (.int .i64 0)]), (.bool false)]), [], []⟩
def sn48 : Mo := ⟨27, 250, [1, 2, 249], [.v (.agg #[(.int .i64 3), (.int .i64 3), (.int .i64 0), (.int .i64 4), (.int .i64 0), (.int .i64 0), (.int .i64 1), (.int .i64 2), (.int .i64 3), (.int .i64 4), (.int .i64 16), (.int .i64 16), (.int .i64 28)]), iv 0, .g [iv 3, iv 0, iv 0, iv 1, iv 0, iv 0, iv 0, .v (.slice none 0 0), .s 0 0 1 1, .s 1 0 1 1], .r 2 0 14 14], [⟨41, [iv 0, iv 5], 0, false, []⟩, ⟨4, [bo true], 0, false, []⟩, ⟨48, [iv 0, bo true, iv 0, bo true, iv 0, bo true, iv 5, bo true, iv 0, bo true, iv 0, bo true, iv 0, bo true, iv 0, bo true, iv 0, bo true, iv 0, bo true, iv 1, bo true, iv 0, bo true, iv 1, bo true, iv 0, bo true], 2, false, []⟩], .v (.tuple #[(.agg #[(.int .i64 2), (.int .i64 4), (.int .i64 0), (.int .i64 0), (.string ⟨#[]⟩)]), (.agg #[(.int .i64 0), (.int .i64 0), (.int .i64 0), (.int .i64 0), (.bool false), (.bool false), (.int .i64 0)]), (.bool false)]), [], []⟩
def sn49 : Mo := ⟨27, 271, [1, 2, 270], [.v (.agg #[(.int .i64 3), (.int .i64 3), (.int .i64 0), (.int .i64 4), (.int .i64 0), (.int .i64 0), (.int .i64 1), (.int .i64 2), (.int .i64 3), (.int .i64 4), (.int .i64 16), (.int .i64 16), (.int .i64 28)]), iv 0, .g [iv 3, iv 0, iv 0, iv 1, iv 0, iv 0, iv 0, .v (.slice none 0 0), .s 0 0 1 1, .s 1 0 1 1], .r 2 0 15 15], [⟨41, [iv 0, iv 5], 0, false, []⟩, ⟨4, [bo true], 0, false, []⟩, ⟨48, [iv 0, bo true, iv 0, bo true, iv 0, bo true, iv 5, bo true, iv 0, bo true, iv 0, bo true, iv 0, bo true, iv 0, bo true, iv 0, bo true, iv 0, bo true, iv 1, bo true, iv 0, bo true, iv 1, bo true, iv 0, bo true, iv 6, bo true], 2, false, []⟩], .v (.tuple #[(.agg #[(.int .i64 0), (.int .i64 0), (.int .i64 0), (.int .i64 0), (.string ⟨#[]⟩)]), (.agg #[(.int .i64 0), (.int .i64 1), (.int .i64 0), (.int .i64 0), (.bool true), (.bool false), (.int .i64 0)]), (.bool true)]), [], []⟩
def sn50 : Mo := ⟨15, 27, [22, 25, 26, 23, 24], [.v (.agg #[(.int .i64 3), (.int .i64 3), (.int .i64 0), (.int .i64 4), (.int .i64 0), (.int .i64 0), (.int .i64 1), (.int .i64 2), (.int .i64 3), (.int .i64 4), (.int .i64 16), (.int .i64 16), (.int .i64 28)]), .p 0 0, iv 0, .g [iv 3, iv 0, iv 0, iv 1, iv 0, iv 0, iv 0, .v (.slice none 0 0), .s 1 0 1 1, .s 2 0 1 1]], [⟨56, [.s 3 0 28 28, .s 4 0 4 4], 0, false, []⟩, ⟨41, [iv 0, iv 5], 0, false, []⟩, ⟨4, [bo true], 0, false, []⟩, ⟨3, [iv 0, iv 0, iv 0, iv 0, iv 5, iv 1, iv 0, iv 0, iv 5, iv 2, iv 0, iv 0, iv 5, iv 3, iv 0, iv 0, iv 0, iv 0, iv 0, iv 0, iv 0, iv 0, iv 0, iv 0, iv 0, iv 0, iv 0, iv 0], 0, false, []⟩, ⟨9, [.v (.string ⟨#[]⟩), .v (.string ⟨#[]⟩), .v (.string ⟨#[]⟩), .v (.string ⟨#[]⟩)], 0, false, []⟩], .v (.tuple #[(.agg #[(.int .i64 0), (.int .i64 1), (.int .i64 0), (.int .i64 0), (.bool true), (.bool false), (.int .i64 0)]), (.int .i64 15)]), [(0, some ⟨56, [.s 5 0 28 28, .s 4 0 4 4], 0, false, []⟩), (4, some ⟨9, [.v (.string ⟨#[0, 6, 2, 0, 10, 0, 0, 0, 0, 0, 0, 0, 0, 0, 0, 0, 0, 0, 0, 0, 0, 0, 0, 0, 0, 0, 0, 0, 19, 0, 226, 1]⟩), .v (.string ⟨#[]⟩), .v (.string ⟨#[]⟩), .v (.string ⟨#[]⟩)], 0, false, []⟩)], [⟨3, [iv 1, iv 0, iv 0, iv 1, iv 0, iv 1, iv 0, iv 0, iv 5, iv 2, iv 0, iv 0, iv 5, iv 3, iv 0, iv 0, iv 2, iv 5, iv 0, iv 0, iv 0, iv 0, iv 0, iv 0, iv 0, iv 0, iv 0, iv 0], 0, false, []⟩]⟩
def sn51 : Mo := ⟨18, 29, [24], [.s 0 0 4 4], [⟨9, [.v (.string ⟨#[0, 6, 2, 0, 10, 0, 0, 0, 0, 0, 0, 0, 0, 0, 0, 0, 0, 0, 0, 0, 0, 0, 0, 0, 0, 0, 0, 0, 19, 0, 226, 1]⟩), .v (.string ⟨#[]⟩), .v (.string ⟨#[]⟩), .v (.string ⟨#[]⟩)], 0, false, []⟩], .t [.r 1 0 1 1, iv 1], [], [⟨70, [iv 1, .r 2 0 1 1], 2, false, []⟩, ⟨41, [iv 0, iv 5], 2, false, []⟩]⟩
end Go.Proofs.YtmickhoededbcaaGreat


/-
  Runs of known calls, each in a small memory of its own.
-/
namespace Go.Proofs.YtmickhoededbcaaGreat
open Go Go.RowKit EX
set_option maxRecDepth 100000
set_option linter.unusedVariables false
set_option maxHeartbeats 4000000 in
theorem sn0_ok : KnGOk Tryz.prog (kgMo sn0) :=
  kgMo_ok (kn := gk knNone) (gk_ok knNone_ok) 100000 sn0 [] [75, 24, 74] [] (by kernel_rfl) (by intro q hq; cases hq) (by kernel_rfl)
set_option maxHeartbeats 4000000 in
theorem sn1_ok : KnGOk Tryz.prog (kgMo sn1) :=
  kgMo_ok (kn := gk knNone) (gk_ok knNone_ok) 100000 sn1 [] [] [] (by kernel_rfl) (by intro q hq; cases hq) (by kernel_rfl)
set_option maxHeartbeats 4000000 in
theorem sn2_ok : KnGOk Tryz.prog (kgMo sn2) :=
  kgMo_ok (kn := gk knNone) (gk_ok knNone_ok) 100000 sn2 [] [] [] (by kernel_rfl) (by intro q hq; cases hq) (by kernel_rfl)
set_option maxHeartbeats 4000000 in
theorem sn3_ok : KnGOk Tryz.prog (kgMo sn3) :=
  kgMo_ok (kn := gk knNone) (gk_ok knNone_ok) 100000 sn3 [] [] [] (by kernel_rfl) (by intro q hq; cases hq) (by kernel_rfl)
set_option maxHeartbeats 4000000 in
theorem sn4_ok : KnGOk Tryz.prog (kgMo sn4) :=
  kgMo_ok (kn := gk knNone) (gk_ok knNone_ok) 100000 sn4 [] [] [] (by kernel_rfl) (by intro q hq; cases hq) (by kernel_rfl)
set_option maxHeartbeats 4000000 in
theorem sn5_ok : KnGOk Tryz.prog (kgMo sn5) :=
  kgMo_ok (kn := gk knNone) (gk_ok knNone_ok) 100000 sn5 [] [] [] (by kernel_rfl) (by intro q hq; cases hq) (by kernel_rfl)
end Go.Proofs.YtmickhoededbcaaGreat


/-
  Runs of known calls, each in a small memory of its own.
-/
namespace Go.Proofs.YtmickhoededbcaaGreat
open Go Go.RowKit EX
set_option maxRecDepth 100000
set_option linter.unusedVariables false
set_option maxHeartbeats 4000000 in
theorem sn33_ok : KnGOk Tryz.prog (kgMo sn33) :=
  kgMo_ok (kn := gk knNone) (gk_ok knNone_ok) 100000 sn33 [] [75, 24, 74] [] (by kernel_rfl) (by intro q hq; cases hq) (by kernel_rfl)
set_option maxHeartbeats 4000000 in
theorem sn34_ok : KnGOk Tryz.prog (kgMo sn34) :=
  kgMo_ok (kn := gk knNone) (gk_ok knNone_ok) 100000 sn34 [] [] [] (by kernel_rfl) (by intro q hq; cases hq) (by kernel_rfl)
set_option maxHeartbeats 4000000 in
theorem sn35_ok : KnGOk Tryz.prog (kgMo sn35) :=
  kgMo_ok (kn := gk knNone) (gk_ok knNone_ok) 100000 sn35 [] [] [] (by kernel_rfl) (by intro q hq; cases hq) (by kernel_rfl)
set_option maxHeartbeats 4000000 in
theorem sn36_ok : KnGOk Tryz.prog (kgMo sn36) :=
  kgMo_ok (kn := gk knNone) (gk_ok knNone_ok) 100000 sn36 [] [] [] (by kernel_rfl) (by intro q hq; cases hq) (by kernel_rfl)
set_option maxHeartbeats 4000000 in
theorem sn37_ok : KnGOk Tryz.prog (kgMo sn37) :=
  kgMo_ok (kn := gk knNone) (gk_ok knNone_ok) 100000 sn37 [] [] [] (by kernel_rfl) (by intro q hq; cases hq) (by kernel_rfl)
set_option maxHeartbeats 4000000 in
theorem sn38_ok : KnGOk Tryz.prog (kgMo sn38) :=
  kgMo_ok (kn := gk knNone) (gk_ok knNone_ok) 100000 sn38 [] [] [] (by kernel_rfl) (by intro q hq; cases hq) (by kernel_rfl)
end Go.Proofs.YtmickhoededbcaaGreat


/-
  Runs of known calls, each in a small memory of its own.
-/
namespace Go.Proofs.YtmickhoededbcaaGreat
open Go Go.RowKit EX
set_option maxRecDepth 100000
set_option linter.unusedVariables false
set_option maxHeartbeats 4000000 in
theorem sn45_ok : KnGOk Tryz.prog (kgMo sn45) :=
  kgMo_ok (kn := gk knNone) (gk_ok knNone_ok) 100000 sn45 [] [] [] (by kernel_rfl) (by intro q hq; cases hq) (by kernel_rfl)
set_option maxHeartbeats 4000000 in
theorem sn46_ok : KnGOk Tryz.prog (kgMo sn46) :=
  kgMo_ok (kn := gk knNone) (gk_ok knNone_ok) 100000 sn46 [] [] [] (by kernel_rfl) (by intro q hq; cases hq) (by kernel_rfl)
set_option maxHeartbeats 4000000 in
theorem sn47_ok : KnGOk Tryz.prog (kgMo sn47) :=
  kgMo_ok (kn := gk knNone) (gk_ok knNone_ok) 100000 sn47 [] [] [] (by kernel_rfl) (by intro q hq; cases hq) (by kernel_rfl)
set_option maxHeartbeats 4000000 in
theorem sn48_ok : KnGOk Tryz.prog (kgMo sn48) :=
  kgMo_ok (kn := gk knNone) (gk_ok knNone_ok) 100000 sn48 [] [] [] (by kernel_rfl) (by intro q hq; cases hq) (by kernel_rfl)
set_option maxHeartbeats 4000000 in
theorem sn49_ok : KnGOk Tryz.prog (kgMo sn49) :=
  kgMo_ok (kn := gk knNone) (gk_ok knNone_ok) 100000 sn49 [] [] [] (by kernel_rfl) (by intro q hq; cases hq) (by kernel_rfl)
set_option maxHeartbeats 4000000 in
theorem sn51_ok : KnGOk Tryz.prog (kgMo sn51) :=
  kgMo_ok (kn := gk knNone) (gk_ok knNone_ok) 100000 sn51 [] [39, 12] [] (by kernel_rfl) (by intro q hq; cases hq) (by kernel_rfl)
end Go.Proofs.YtmickhoededbcaaGreat


/-
  Runs of known calls, each in a small memory of its own.
-/
namespace Go.Proofs.YtmickhoededbcaaGreat
open Go Go.RowKit EX
set_option maxRecDepth 100000
set_option linter.unusedVariables false
set_option maxHeartbeats 4000000 in
theorem sn6_ok : KnGOk Tryz.prog (kgMo sn6) :=
  kgMo_ok (kn := gk knNone) (gk_ok knNone_ok) 100000 sn6 [] [] [] (by kernel_rfl) (by intro q hq; cases hq) (by kernel_rfl)
set_option maxHeartbeats 4000000 in
theorem sn7_ok : KnGOk Tryz.prog (kgMo sn7) :=
  kgMo_ok (kn := gk knNone) (gk_ok knNone_ok) 100000 sn7 [] [] [] (by kernel_rfl) (by intro q hq; cases hq) (by kernel_rfl)
set_option maxHeartbeats 4000000 in
theorem sn8_ok : KnGOk Tryz.prog (kgMo sn8) :=
  kgMo_ok (kn := gk knNone) (gk_ok knNone_ok) 100000 sn8 [] [] [] (by kernel_rfl) (by intro q hq; cases hq) (by kernel_rfl)
set_option maxHeartbeats 4000000 in
theorem sn9_ok : KnGOk Tryz.prog (kgMo sn9) :=
  kgMo_ok (kn := gk knNone) (gk_ok knNone_ok) 100000 sn9 [] [] [] (by kernel_rfl) (by intro q hq; cases hq) (by kernel_rfl)
set_option maxHeartbeats 4000000 in
theorem sn10_ok : KnGOk Tryz.prog (kgMo sn10) :=
  kgMo_ok (kn := gk knNone) (gk_ok knNone_ok) 100000 sn10 [] [] [] (by kernel_rfl) (by intro q hq; cases hq) (by kernel_rfl)
set_option maxHeartbeats 4000000 in
theorem sn11_ok : KnGOk Tryz.prog (kgMo sn11) :=
  kgMo_ok (kn := gk knNone) (gk_ok knNone_ok) 100000 sn11 [] [] [] (by kernel_rfl) (by intro q hq; cases hq) (by kernel_rfl)
end Go.Proofs.YtmickhoededbcaaGreat


/-
  Runs of known calls, each in a small memory of its own.
-/
namespace Go.Proofs.YtmickhoededbcaaGreat
open Go Go.RowKit EX
set_option maxRecDepth 100000
set_option linter.unusedVariables false
set_option maxHeartbeats 4000000 in
theorem sn12_ok : KnGOk Tryz.prog (kgMo sn12) :=
  kgMo_ok (kn := gk knNone) (gk_ok knNone_ok) 100000 sn12 [] [] [] (by kernel_rfl) (by intro q hq; cases hq) (by kernel_rfl)
set_option maxHeartbeats 4000000 in
theorem sn13_ok : KnGOk Tryz.prog (kgMo sn13) :=
  kgMo_ok (kn := gk knNone) (gk_ok knNone_ok) 100000 sn13 [] [] [] (by kernel_rfl) (by intro q hq; cases hq) (by kernel_rfl)
set_option maxHeartbeats 4000000 in
theorem sn14_ok : KnGOk Tryz.prog (kgMo sn14) :=
  kgMo_ok (kn := gk knNone) (gk_ok knNone_ok) 100000 sn14 [] [] [] (by kernel_rfl) (by intro q hq; cases hq) (by kernel_rfl)
set_option maxHeartbeats 4000000 in
theorem sn15_ok : KnGOk Tryz.prog (kgMo sn15) :=
  kgMo_ok (kn := gk knNone) (gk_ok knNone_ok) 100000 sn15 [] [] [] (by kernel_rfl) (by intro q hq; cases hq) (by kernel_rfl)
set_option maxHeartbeats 4000000 in
theorem sn16_ok : KnGOk Tryz.prog (kgMo sn16) :=
  kgMo_ok (kn := gk knNone) (gk_ok knNone_ok) 100000 sn16 [] [] [] (by kernel_rfl) (by intro q hq; cases hq) (by kernel_rfl)
set_option maxHeartbeats 4000000 in
theorem sn17_ok : KnGOk Tryz.prog (kgMo sn17) :=
  kgMo_ok (kn := gk knNone) (gk_ok knNone_ok) 100000 sn17 [] [] [] (by kernel_rfl) (by intro q hq; cases hq) (by kernel_rfl)
end Go.Proofs.YtmickhoededbcaaGreat


/-
  Runs of known calls, each in a small memory of its own.
-/
namespace Go.Proofs.YtmickhoededbcaaGreat
open Go Go.RowKit EX
set_option maxRecDepth 100000
set_option linter.unusedVariables false
set_option maxHeartbeats 4000000 in
theorem sn18_ok : KnGOk Tryz.prog (kgMo sn18) :=
  kgMo_ok (kn := gk knNone) (gk_ok knNone_ok) 100000 sn18 [] [] [] (by kernel_rfl) (by intro q hq; cases hq) (by kernel_rfl)
set_option maxHeartbeats 4000000 in
theorem sn20_ok : KnGOk Tryz.prog (kgMo sn20) :=
  kgMo_ok (kn := gk knNone) (gk_ok knNone_ok) 100000 sn20 [] [] [] (by kernel_rfl) (by intro q hq; cases hq) (by kernel_rfl)
set_option maxHeartbeats 4000000 in
theorem sn21_ok : KnGOk Tryz.prog (kgMo sn21) :=
  kgMo_ok (kn := gk knNone) (gk_ok knNone_ok) 100000 sn21 [] [] [] (by kernel_rfl) (by intro q hq; cases hq) (by kernel_rfl)
set_option maxHeartbeats 4000000 in
theorem sn22_ok : KnGOk Tryz.prog (kgMo sn22) :=
  kgMo_ok (kn := gk knNone) (gk_ok knNone_ok) 100000 sn22 [] [] [] (by kernel_rfl) (by intro q hq; cases hq) (by kernel_rfl)
set_option maxHeartbeats 4000000 in
theorem sn24_ok : KnGOk Tryz.prog (kgMo sn24) :=
  kgMo_ok (kn := gk knNone) (gk_ok knNone_ok) 100000 sn24 [] [] [] (by kernel_rfl) (by intro q hq; cases hq) (by kernel_rfl)
set_option maxHeartbeats 4000000 in
theorem sn25_ok : KnGOk Tryz.prog (kgMo sn25) :=
  kgMo_ok (kn := gk knNone) (gk_ok knNone_ok) 100000 sn25 [] [] [] (by kernel_rfl) (by intro q hq; cases hq) (by kernel_rfl)
end Go.Proofs.YtmickhoededbcaaGreat


/-
  Runs of known calls, each in a small memory of its own.
-/
namespace Go.Proofs.YtmickhoededbcaaGreat
open Go Go.RowKit EX
set_option maxRecDepth 100000
set_option linter.unusedVariables false
set_option maxHeartbeats 4000000 in
theorem sn26_ok : KnGOk Tryz.prog (kgMo sn26) :=
  kgMo_ok (kn := gk knNone) (gk_ok knNone_ok) 100000 sn26 [] [] [] (by kernel_rfl) (by intro q hq; cases hq) (by kernel_rfl)
set_option maxHeartbeats 4000000 in
theorem sn27_ok : KnGOk Tryz.prog (kgMo sn27) :=
  kgMo_ok (kn := gk knNone) (gk_ok knNone_ok) 100000 sn27 [] [] [] (by kernel_rfl) (by intro q hq; cases hq) (by kernel_rfl)
set_option maxHeartbeats 4000000 in
theorem sn28_ok : KnGOk Tryz.prog (kgMo sn28) :=
  kgMo_ok (kn := gk knNone) (gk_ok knNone_ok) 100000 sn28 [] [] [] (by kernel_rfl) (by intro q hq; cases hq) (by kernel_rfl)
set_option maxHeartbeats 4000000 in
theorem sn29_ok : KnGOk Tryz.prog (kgMo sn29) :=
  kgMo_ok (kn := gk knNone) (gk_ok knNone_ok) 100000 sn29 [] [] [] (by kernel_rfl) (by intro q hq; cases hq) (by kernel_rfl)
set_option maxHeartbeats 4000000 in
theorem sn30_ok : KnGOk Tryz.prog (kgMo sn30) :=
  kgMo_ok (kn := gk knNone) (gk_ok knNone_ok) 100000 sn30 [] [] [] (by kernel_rfl) (by intro q hq; cases hq) (by kernel_rfl)
set_option maxHeartbeats 4000000 in
theorem sn31_ok : KnGOk Tryz.prog (kgMo sn31) :=
  kgMo_ok (kn := gk knNone) (gk_ok knNone_ok) 100000 sn31 [] [] [] (by kernel_rfl) (by intro q hq; cases hq) (by kernel_rfl)
end Go.Proofs.YtmickhoededbcaaGreat


/-
  Runs of known calls, each in a small memory of its own.
-/
namespace Go.Proofs.YtmickhoededbcaaGreat
open Go Go.RowKit EX
set_option maxRecDepth 100000
set_option linter.unusedVariables false
set_option maxHeartbeats 4000000 in
theorem sn39_ok : KnGOk Tryz.prog (kgMo sn39) :=
  kgMo_ok (kn := gk knNone) (gk_ok knNone_ok) 100000 sn39 [] [] [] (by kernel_rfl) (by intro q hq; cases hq) (by kernel_rfl)
set_option maxHeartbeats 4000000 in
theorem sn40_ok : KnGOk Tryz.prog (kgMo sn40) :=
  kgMo_ok (kn := gk knNone) (gk_ok knNone_ok) 100000 sn40 [] [] [] (by kernel_rfl) (by intro q hq; cases hq) (by kernel_rfl)
set_option maxHeartbeats 4000000 in
theorem sn41_ok : KnGOk Tryz.prog (kgMo sn41) :=
  kgMo_ok (kn := gk knNone) (gk_ok knNone_ok) 100000 sn41 [] [] [] (by kernel_rfl) (by intro q hq; cases hq) (by kernel_rfl)
set_option maxHeartbeats 4000000 in
theorem sn42_ok : KnGOk Tryz.prog (kgMo sn42) :=
  kgMo_ok (kn := gk knNone) (gk_ok knNone_ok) 100000 sn42 [] [] [] (by kernel_rfl) (by intro q hq; cases hq) (by kernel_rfl)
set_option maxHeartbeats 4000000 in
theorem sn43_ok : KnGOk Tryz.prog (kgMo sn43) :=
  kgMo_ok (kn := gk knNone) (gk_ok knNone_ok) 100000 sn43 [] [] [] (by kernel_rfl) (by intro q hq; cases hq) (by kernel_rfl)
set_option maxHeartbeats 4000000 in
theorem sn44_ok : KnGOk Tryz.prog (kgMo sn44) :=
  kgMo_ok (kn := gk knNone) (gk_ok knNone_ok) 100000 sn44 [] [] [] (by kernel_rfl) (by intro q hq; cases hq) (by kernel_rfl)
end Go.Proofs.YtmickhoededbcaaGreat


/-
  Runs of known calls, each in a small memory of its own.
-/
namespace Go.Proofs.YtmickhoededbcaaGreat
open Go Go.RowKit EX
set_option maxRecDepth 100000
set_option linter.unusedVariables false
set_option maxHeartbeats 4000000 in
theorem sn19_ok : KnGOk Tryz.prog (kgMo sn19) :=
  kgMo_ok (kn := kgOr (kgMo sn1) (kgOr (kgMo sn2) (kgOr (kgMo sn3) (kgOr (kgMo sn4) (kgOr (kgMo sn5) (kgOr (kgMo sn6) (kgOr (kgMo sn7) (kgOr (kgMo sn8) (kgOr (kgMo sn9) (kgOr (kgMo sn10) (kgOr (kgMo sn11) (kgOr (kgMo sn12) (kgOr (kgMo sn13) (kgOr (kgMo sn14) (kgOr (kgMo sn15) (kgOr (kgMo sn16) (kgOr (kgMo sn17) (kgOr (kgMo sn18) (gk knNone))))))))))))))))))) (kgOr_ok sn1_ok (kgOr_ok sn2_ok (kgOr_ok sn3_ok (kgOr_ok sn4_ok (kgOr_ok sn5_ok (kgOr_ok sn6_ok (kgOr_ok sn7_ok (kgOr_ok sn8_ok (kgOr_ok sn9_ok (kgOr_ok sn10_ok (kgOr_ok sn11_ok (kgOr_ok sn12_ok (kgOr_ok sn13_ok (kgOr_ok sn14_ok (kgOr_ok sn15_ok (kgOr_ok sn16_ok (kgOr_ok sn17_ok (kgOr_ok sn18_ok (gk_ok knNone_ok))))))))))))))))))) 100000 sn19 [] [307] [] (by kernel_rfl) (by intro q hq; cases hq) (by kernel_rfl)
set_option maxHeartbeats 4000000 in
theorem sn23_ok : KnGOk Tryz.prog (kgMo sn23) :=
  kgMo_ok (kn := kgOr (kgMo sn20) (kgOr (kgMo sn21) (kgOr (kgMo sn22) (gk knNone)))) (kgOr_ok sn20_ok (kgOr_ok sn21_ok (kgOr_ok sn22_ok (gk_ok knNone_ok)))) 100000 sn23 [] [33] [] (by kernel_rfl) (by intro q hq; cases hq) (by kernel_rfl)
set_option maxHeartbeats 4000000 in
theorem sn32_ok : KnGOk Tryz.prog (kgMo sn32) :=
  kgMo_ok (kn := kgOr (kgMo sn24) (kgOr (kgMo sn25) (kgOr (kgMo sn26) (kgOr (kgMo sn27) (kgOr (kgMo sn28) (kgOr (kgMo sn29) (kgOr (kgMo sn30) (kgOr (kgMo sn31) (gk knNone))))))))) (kgOr_ok sn24_ok (kgOr_ok sn25_ok (kgOr_ok sn26_ok (kgOr_ok sn27_ok (kgOr_ok sn28_ok (kgOr_ok sn29_ok (kgOr_ok sn30_ok (kgOr_ok sn31_ok (gk_ok knNone_ok))))))))) 100000 sn32 [] [127] [] (by kernel_rfl) (by intro q hq; cases hq) (by kernel_rfl)
set_option maxHeartbeats 4000000 in
theorem sn50_ok : KnGOk Tryz.prog (kgMo sn50) :=
  kgMo_ok (kn := kgOr (kgMo sn34) (kgOr (kgMo sn35) (kgOr (kgMo sn36) (kgOr (kgMo sn37) (kgOr (kgMo sn38) (kgOr (kgMo sn39) (kgOr (kgMo sn40) (kgOr (kgMo sn41) (kgOr (kgMo sn42) (kgOr (kgMo sn43) (kgOr (kgMo sn44) (kgOr (kgMo sn45) (kgOr (kgMo sn46) (kgOr (kgMo sn47) (kgOr (kgMo sn48) (kgOr (kgMo sn49) (gk knNone))))))))))))))))) (kgOr_ok sn34_ok (kgOr_ok sn35_ok (kgOr_ok sn36_ok (kgOr_ok sn37_ok (kgOr_ok sn38_ok (kgOr_ok sn39_ok (kgOr_ok sn40_ok (kgOr_ok sn41_ok (kgOr_ok sn42_ok (kgOr_ok sn43_ok (kgOr_ok sn44_ok (kgOr_ok sn45_ok (kgOr_ok sn46_ok (kgOr_ok sn47_ok (kgOr_ok sn48_ok (kgOr_ok sn49_ok (gk_ok knNone_ok))))))))))))))))) 100000 sn50 [] [261] [] (by kernel_rfl) (by intro q hq; cases hq) (by kernel_rfl)
end Go.Proofs.YtmickhoededbcaaGreat


/-
  Runs of known calls, each in a small memory of its own.
-/
namespace Go.Proofs.YtmickhoededbcaaGreat
open Go Go.RowKit EX
set_option maxRecDepth 100000
set_option linter.unusedVariables false
noncomputable def snT : KnG := kgOr (kgMo sn0) (kgOr (kgMo sn19) (kgOr (kgMo sn23) (kgOr (kgMo sn32) (kgOr (kgMo sn33) (kgOr (kgMo sn50) (kgOr (kgMo sn51) (gk knNone)))))))
theorem snT_ok : KnGOk Tryz.prog snT := kgOr_ok sn0_ok (kgOr_ok sn19_ok (kgOr_ok sn23_ok (kgOr_ok sn32_ok (kgOr_ok sn33_ok (kgOr_ok sn50_ok (kgOr_ok sn51_ok (gk_ok knNone_ok)))))))
end Go.Proofs.YtmickhoededbcaaGreat


/-
  Layer 24: the example of the documentation; a status word whose kind is known.
-/
namespace Go.Proofs.YtmickhoededbcaaGreat
open Go Go.RowKit EX
set_option maxRecDepth 100000
set_option linter.unusedVariables false
set_option linter.unusedSimpArgs false
set_option maxHeartbeats 4000000 in
theorem sane24 (w : World) : Calls Tryz.prog 5 #[] w fun e w' => e = .returned (.bool true) ∧ Below w.heap.size w w' :=
  ex_valG snT_ok 100000 [] [] [] (by kernel_rfl) (by simp [denL]) (by simp [bdL]) (by intro q hq; cases hq)
/-- The word of attempt 6, of a kind that is told. -/
def knS6 (k : Int) : Kn := fun f args => match Nat.beq f 10, args with
  | true, [.v (.int .i64 6), .y (.int .i64 a)] => some (.v (.int .i64 (wrap64 (4 * 6 + k % 4))), [(.int .i64 a, .int .i64 k)])
  | _, _ => none
theorem knS6_ok (k : Int) : KnOk Tryz.prog (knS6 k) := by
  intro f args x cs hx
  unfold knS6 at hx
  split at hx
  · rename_i a hb
    simp only [Option.some.injEq, Prod.mk.injEq] at hx
    obtain ⟨rfl, rfl⟩ := hx
    have := Nat.eq_of_beq_eq_true hb
    subst this
    refine ⟨by simp [bd], fun tr B w => ?_⟩
    have e : a = k := by
      have := tr (.int .i64 a, .int .i64 k) (by simp)
      simpa using this
    subst e
    simpa [denL, den] using (wstatus_any 6 a w).mono fun e w' ⟨h1, h2⟩ => ⟨h1, h2 ▸ Below.refl _ _⟩
  · cases hx
noncomputable def kg24 (k : Int) : KnG := gk (knOr (kn1 5 (.bool true)) (knS6 k))
theorem kg24_ok (k : Int) : KnGOk Tryz.prog (kg24 k) := gk_ok (knOr_ok (kn1_ok sane24) (knS6_ok k))
end Go.Proofs.YtmickhoededbcaaGreat


/-
  Runs of known calls, each in a small memory of its own.
-/
namespace Go.Proofs.YtmickhoededbcaaGreat
open Go Go.RowKit EX
set_option maxRecDepth 100000
set_option linter.unusedVariables false
def rd0 (m o : Int) : Mo := ⟨7, 8, [], [.v (.agg #[(.int .i64 3), (.int .i64 3), (.int .i64 0), (.int .i64 4), (.int .i64 1), (.int .i64 0), (.int .i64 1), (.int .i64 2), (.int .i64 3), (.int .i64 4), (.int .i64 16), (.int .i64 16), (.int .i64 28)])], [], .p 0 0, [], [⟨56, [.s 1 0 28 28, .s 2 0 4 4], 0, false, []⟩, ⟨3, [iv 0, iv 0, iv 0, iv 0, iv 5, iv 1, iv 0, iv 0, iv 5, iv 2, iv 0, iv 0, iv 5, iv 3, iv 0, iv 0, iv 0, iv 0, iv 0, iv 0, iv 0, iv 0, iv 0, iv 0, iv 0, iv 0, iv 0, iv 0], 0, false, []⟩, ⟨9, [.v (.string ⟨#[]⟩), .v (.string ⟨#[]⟩), .v (.string ⟨#[]⟩), .v (.string ⟨#[]⟩)], 0, false, []⟩]⟩
def rd1 (m o : Int) : Mo := ⟨27, 7, [1], [.v (.agg #[(.int .i64 3), (.int .i64 3), (.int .i64 0), (.int .i64 4), (.int .i64 1), (.int .i64 0), (.int .i64 1), (.int .i64 2), (.int .i64 3), (.int .i64 4), (.int .i64 16), (.int .i64 16), (.int .i64 28)]), iv 0, .g [iv 3, iv 0, iv 0, iv 1, .y (.int .i64 m), iv 0, iv 0, .v (.slice none 0 0), .s 0 0 1 1, .v (.slice none 0 0)], .v (.slice none 0 0)], [⟨41, [iv 1, iv 9], 0, false, []⟩], .v (.tuple #[(.agg #[(.int .i64 1), (.int .i64 20), (.int .i64 0), (.int .i64 0), (.string ⟨#[]⟩)]), (.agg #[(.int .i64 0), (.int .i64 0), (.int .i64 0), (.int .i64 0), (.bool false), (.bool false), (.int .i64 0)]), (.bool false)]), [], []⟩
def rd2 (m o : Int) : Mo := ⟨27, 22, [1, 21], [.v (.agg #[(.int .i64 3), (.int .i64 3), (.int .i64 0), (.int .i64 4), (.int .i64 1), (.int .i64 0), (.int .i64 1), (.int .i64 2), (.int .i64 3), (.int .i64 4), (.int .i64 16), (.int .i64 16), (.int .i64 28)]), iv 0, .g [iv 3, iv 0, iv 0, iv 1, .y (.int .i64 m), iv 0, iv 0, .v (.slice none 0 0), .s 0 0 1 1, .v (.slice none 0 0)], .r 1 0 1 1], [⟨41, [iv 1, iv 9], 0, false, []⟩, ⟨48, [iv 0, bo true], 2, false, []⟩], .v (.tuple #[(.agg #[(.int .i64 3), (.int .i64 20), (.int .i64 0), (.int .i64 1), (.string ⟨#[]⟩)]), (.agg #[(.int .i64 0), (.int .i64 0), (.int .i64 0), (.int .i64 0), (.bool false), (.bool false), (.int .i64 0)]), (.bool false)]), [], []⟩
def rd3 (m o : Int) : Mo := ⟨27, 43, [1, 42], [.v (.agg #[(.int .i64 3), (.int .i64 3), (.int .i64 0), (.int .i64 4), (.int .i64 1), (.int .i64 0), (.int .i64 1), (.int .i64 2), (.int .i64 3), (.int .i64 4), (.int .i64 16), (.int .i64 16), (.int .i64 28)]), iv 0, .g [iv 3, iv 0, iv 0, iv 1, .y (.int .i64 m), iv 0, iv 0, .v (.slice none 0 0), .s 0 0 1 1, .v (.slice none 0 0)], .r 1 0 2 2], [⟨41, [iv 1, iv 9], 0, false, []⟩, ⟨48, [iv 0, bo true, iv 0, bo true], 2, false, []⟩], .v (.tuple #[(.agg #[(.int .i64 1), (.int .i64 22), (.int .i64 0), (.int .i64 0), (.string ⟨#[]⟩)]), (.agg #[(.int .i64 0), (.int .i64 0), (.int .i64 0), (.int .i64 0), (.bool false), (.bool false), (.int .i64 0)]), (.bool false)]), [], []⟩
def rd4 (m o : Int) : Mo := ⟨27, 58, [1, 57], [.v (.agg #[(.int .i64 3), (.int .i64 3), (.int .i64 0), (.int .i64 4), (.int .i64 1), (.int .i64 0), (.int .i64 1), (.int .i64 2), (.int .i64 3), (.int .i64 4), (.int .i64 16), (.int .i64 16), (.int .i64 28)]), iv 0, .g [iv 3, iv 0, iv 0, iv 1, .y (.int .i64 m), iv 0, iv 0, .v (.slice none 0 0), .s 0 0 1 1, .v (.slice none 0 0)], .r 1 0 3 3], [⟨41, [iv 1, iv 9], 0, false, []⟩, ⟨48, [iv 0, bo true, iv 0, bo true, iv 4, bo true], 2, false, []⟩], .v (.tuple #[(.agg #[(.int .i64 1), (.int .i64 12), (.int .i64 0), (.int .i64 0), (.string ⟨#[]⟩)]), (.agg #[(.int .i64 0), (.int .i64 0), (.int .i64 0), (.int .i64 0), (.bool false), (.bool false), (.int .i64 0)]), (.bool false)]), [], []⟩
def rd5 (m o : Int) : Mo := ⟨27, 73, [1, 72], [.v (.agg #[(.int .i64 3), (.int .i64 3), (.int .i64 0), (.int .i64 4), (.int .i64 1), (.int .i64 0), (.int .i64 1), (.int .i64 2), (.int .i64 3), (.int .i64 4), (.int .i64 16), (.int .i64 16), (.int .i64 28)]), iv 0, .g [iv 3, iv 0, iv 0, iv 1, .y (.int .i64 m), iv 0, iv 0, .v (.slice none 0 0), .s 0 0 1 1, .v (.slice none 0 0)], .r 1 0 4 4], [⟨41, [iv 1, iv 9], 0, false, []⟩, ⟨48, [iv 0, bo true, iv 0, bo true, iv 4, bo true, iv 24, bo true], 2, false, []⟩], .v (.tuple #[(.agg #[(.int .i64 3), (.int .i64 4), (.int .i64 5), (.int .i64 6), (.string ⟨#[]⟩)]), (.agg #[(.int .i64 0), (.int .i64 0), (.int .i64 0), (.int .i64 0), (.bool false), (.bool false), (.int .i64 0)]), (.bool false)]), [], []⟩
def rd6 (m o : Int) : Mo := ⟨27, 94, [1, 93], [.v (.agg #[(.int .i64 3), (.int .i64 3), (.int .i64 0), (.int .i64 4), (.int .i64 1), (.int .i64 0), (.int .i64 1), (.int .i64 2), (.int .i64 3), (.int .i64 4), (.int .i64 16), (.int .i64 16), (.int .i64 28)]), iv 0, .g [iv 3, iv 0, iv 0, iv 1, .y (.int .i64 m), iv 0, iv 0, .v (.slice none 0 0), .s 0 0 1 1, .v (.slice none 0 0)], .r 1 0 5 5], [⟨41, [iv 1, iv 9], 0, false, []⟩, ⟨48, [iv 0, bo true, iv 0, bo true, iv 4, bo true, iv 24, bo true, iv 5, bo true], 2, false, []⟩], .v (.tuple #[(.agg #[(.int .i64 4), (.int .i64 0), (.int .i64 0), (.int .i64 1), (.string ⟨#[]⟩)]), (.agg #[(.int .i64 0), (.int .i64 0), (.int .i64 0), (.int .i64 0), (.bool false), (.bool false), (.int .i64 0)]), (.bool false)]), [], []⟩
def rd7 (m o : Int) : Mo := ⟨27, 115, [1, 114], [.v (.agg #[(.int .i64 3), (.int .i64 3), (.int .i64 0), (.int .i64 4), (.int .i64 1), (.int .i64 0), (.int .i64 1), (.int .i64 2), (.int .i64 3), (.int .i64 4), (.int .i64 16), (.int .i64 16), (.int .i64 28)]), iv 0, .g [iv 3, iv 0, iv 0, iv 1, .y (.int .i64 m), iv 0, iv 0, .v (.slice none 0 0), .s 0 0 1 1, .v (.slice none 0 0)], .r 1 0 6 6], [⟨41, [iv 1, iv 9], 0, false, []⟩, ⟨48, [iv 0, bo true, iv 0, bo true, iv 4, bo true, iv 24, bo true, iv 5, bo true, iv 0, bo true], 2, false, []⟩], .v (.tuple #[(.agg #[(.int .i64 2), (.int .i64 21), (.int .i64 0), (.int .i64 9), (.string ⟨#[]⟩)]), (.agg #[(.int .i64 0), (.int .i64 0), (.int .i64 0), (.int .i64 0), (.bool false), (.bool false), (.int .i64 0)]), (.bool false)]), [], []⟩
def rd8 (m o : Int) : Mo := ⟨27, 136, [1, 135], [.v (.agg #[(.int .i64 3), (.int .i64 3), (.int .i64 0), (.int .i64 4), (.int .i64 1), (.int .i64 0), (.int .i64 1), (.int .i64 2), (.int .i64 3), (.int .i64 4), (.int .i64 16), (.int .i64 16), (.int .i64 28)]), iv 0, .g [iv 3, iv 0, iv 0, iv 1, .y (.int .i64 m), iv 0, iv 0, .v (.slice none 0 0), .s 0 0 1 1, .v (.slice none 0 0)], .r 1 0 7 7], [⟨41, [iv 1, iv 9], 0, false, []⟩, ⟨48, [iv 0, bo true, iv 0, bo true, iv 4, bo true, iv 24, bo true, iv 5, bo true, iv 0, bo true, iv 0, bo true], 2, false, []⟩], .v (.tuple #[(.agg #[(.int .i64 2), (.int .i64 20), (.int .i64 0), (.int .i64 2), (.string ⟨#[]⟩)]), (.agg #[(.int .i64 0), (.int .i64 0), (.int .i64 0), (.int .i64 0), (.bool false), (.bool false), (.int .i64 0)]), (.bool false)]), [], []⟩
def rd9 (m o : Int) : Mo := ⟨27, 157, [1, 156], [.v (.agg #[(.int .i64 3), (.int .i64 3), (.int .i64 0), (.int .i64 4), (.int .i64 1), (.int .i64 0), (.int .i64 1), (.int .i64 2), (.int .i64 3), (.int .i64 4), (.int .i64 16), (.int .i64 16), (.int .i64 28)]), iv 0, .g [iv 3, iv 0, iv 0, iv 1, .y (.int .i64 m), iv 0, iv 0, .v (.slice none 0 0), .s 0 0 1 1, .v (.slice none 0 0)], .r 1 0 8 8], [⟨41, [iv 1, iv 9], 0, false, []⟩, ⟨48, [iv 0, bo true, iv 0, bo true, iv 4, bo true, iv 24, bo true, iv 5, bo true, iv 0, bo true, iv 0, bo true, iv 1, bo true], 2, false, []⟩], .v (.tuple #[(.agg #[(.int .i64 1), (.int .i64 23), (.int .i64 0), (.int .i64 0), (.string ⟨#[]⟩)]), (.agg #[(.int .i64 0), (.int .i64 0), (.int .i64 0), (.int .i64 0), (.bool false), (.bool false), (.int .i64 0)]), (.bool false)]), [], []⟩
def rd10 (m o : Int) : Mo := ⟨27, 172, [1, 171], [.v (.agg #[(.int .i64 3), (.int .i64 3), (.int .i64 0), (.int .i64 4), (.int .i64 1), (.int .i64 0), (.int .i64 1), (.int .i64 2), (.int .i64 3), (.int .i64 4), (.int .i64 16), (.int .i64 16), (.int .i64 28)]), iv 0, .g [iv 3, iv 0, iv 0, iv 1, .y (.int .i64 m), iv 0, iv 0, .v (.slice none 0 0), .s 0 0 1 1, .v (.slice none 0 0)], .r 1 0 9 9], [⟨41, [iv 1, iv 9], 0, false, []⟩, ⟨48, [iv 0, bo true, iv 0, bo true, iv 4, bo true, iv 24, bo true, iv 5, bo true, iv 0, bo true, iv 0, bo true, iv 1, bo true, iv 0, bo true], 2, false, []⟩], .v (.tuple #[(.agg #[(.int .i64 2), (.int .i64 4), (.int .i64 0), (.int .i64 0), (.string ⟨#[]⟩)]), (.agg #[(.int .i64 0), (.int .i64 0), (.int .i64 0), (.int .i64 0), (.bool false), (.bool false), (.int .i64 0)]), (.bool false)]), [], []⟩
def rd11 (m o : Int) : Mo := ⟨27, 193, [1, 192], [.v (.agg #[(.int .i64 3), (.int .i64 3), (.int .i64 0), (.int .i64 4), (.int .i64 1), (.int .i64 0), (.int .i64 1), (.int .i64 2), (.int .i64 3), (.int .i64 4), (.int .i64 16), (.int .i64 16), (.int .i64 28)]), iv 0, .g [iv 3, iv 0, iv 0, iv 1, .y (.int .i64 m), iv 0, iv 0, .v (.slice none 0 0), .s 0 0 1 1, .v (.slice none 0 0)], .r 1 0 10 10], [⟨41, [iv 1, iv 9], 0, false, []⟩, ⟨48, [iv 0, bo true, iv 0, bo true, iv 4, bo true, iv 24, bo true, iv 5, bo true, iv 0, bo true, iv 0, bo true, iv 1, bo true, iv 0, bo true, iv 6, bo true], 2, false, []⟩], .v (.tuple #[(.agg #[(.int .i64 0), (.int .i64 0), (.int .i64 0), (.int .i64 0), (.string ⟨#[]⟩)]), (.agg #[(.int .i64 0), (.int .i64 1), (.int .i64 0), (.int .i64 0), (.bool true), (.bool false), (.int .i64 0)]), (.bool true)]), [], []⟩
def rd12 (m o : Int) : Mo := ⟨15, 69, [8, 68, 60, 10], [.v (.agg #[(.int .i64 3), (.int .i64 3), (.int .i64 0), (.int .i64 4), (.int .i64 1), (.int .i64 0), (.int .i64 1), (.int .i64 2), (.int .i64 3), (.int .i64 4), (.int .i64 16), (.int .i64 16), (.int .i64 28)]), .p 0 0, iv 0, .g [iv 3, iv 0, iv 0, iv 1, .y (.int .i64 m), iv 0, iv 0, .v (.slice none 0 0), .s 1 0 1 1, .v (.slice none 0 0)]], [⟨56, [.s 2 0 28 28, .s 3 0 4 4], 0, false, []⟩, ⟨41, [iv 1, iv 9], 0, false, []⟩, ⟨3, [iv 0, iv 0, iv 0, iv 0, iv 5, iv 1, iv 0, iv 0, iv 5, iv 2, iv 0, iv 0, iv 24, .y (.int .i64 o), iv 0, iv 0, iv 0, iv 0, iv 0, iv 0, iv 0, iv 0, iv 4, iv 0, iv 0, iv 0, iv 0, iv 0], 0, false, []⟩, ⟨9, [.v (.string ⟨#[]⟩), .v (.string ⟨#[]⟩), .v (.string ⟨#[]⟩), .v (.string ⟨#[]⟩)], 0, false, []⟩], .v (.tuple #[(.agg #[(.int .i64 0), (.int .i64 1), (.int .i64 0), (.int .i64 0), (.bool true), (.bool false), (.int .i64 0)]), (.int .i64 10)]), [(0, some ⟨56, [.s 4 0 28 28, .s 3 0 4 4], 0, false, []⟩)], [⟨3, [iv 1, iv 0, iv 0, iv 0, iv 0, iv 1, iv 0, iv 0, iv 5, iv 2, iv 0, iv 0, iv 24, .y (.int .i64 o), iv 0, iv 0, iv 0, iv 0, iv 0, iv 0, iv 2, iv 9, iv 4, iv 0, iv 0, iv 0, iv 0, iv 0], 0, false, []⟩]⟩
def rd13 (m o : Int) : Mo := ⟨27, 73, [1, 72], [.v (.agg #[(.int .i64 3), (.int .i64 3), (.int .i64 0), (.int .i64 4), (.int .i64 1), (.int .i64 0), (.int .i64 1), (.int .i64 2), (.int .i64 3), (.int .i64 4), (.int .i64 16), (.int .i64 16), (.int .i64 28)]), iv 0, .g [iv 3, iv 0, iv 0, iv 1, .y (.int .i64 m), iv 0, iv 0, .v (.slice none 0 0), .s 0 0 1 1, .v (.slice none 0 0)], .r 1 0 4 4], [⟨41, [iv 1, iv 9], 0, false, []⟩, ⟨48, [iv 0, bo true, iv 0, bo true, iv 4, bo true, iv 25, bo true], 2, false, []⟩], .v (.tuple #[(.agg #[(.int .i64 1), (.int .i64 13), (.int .i64 0), (.int .i64 0), (.string ⟨#[]⟩)]), (.agg #[(.int .i64 0), (.int .i64 0), (.int .i64 0), (.int .i64 0), (.bool false), (.bool false), (.int .i64 0)]), (.bool false)]), [], []⟩
def rd14 (m o : Int) : Mo := ⟨27, 88, [1, 87], [.v (.agg #[(.int .i64 3), (.int .i64 3), (.int .i64 0), (.int .i64 4), (.int .i64 1), (.int .i64 0), (.int .i64 1), (.int .i64 2), (.int .i64 3), (.int .i64 4), (.int .i64 16), (.int .i64 16), (.int .i64 28)]), iv 0, .g [iv 3, iv 0, iv 0, iv 1, .y (.int .i64 m), iv 0, iv 0, .v (.slice none 0 0), .s 0 0 1 1, .v (.slice none 0 0)], .r 1 0 5 5], [⟨41, [iv 1, iv 9], 0, false, []⟩, ⟨48, [iv 0, bo true, iv 0, bo true, iv 4, bo true, iv 25, bo true, .y (.int .i64 o), bo true], 2, false, []⟩], .v (.tuple #[(.agg #[(.int .i64 1), (.int .i64 15), (.int .i64 0), (.int .i64 0), (.string ⟨#[]⟩)]), (.agg #[(.int .i64 0), (.int .i64 0), (.int .i64 0), (.int .i64 0), (.bool false), (.bool false), (.int .i64 0)]), (.bool false)]), [], []⟩
def rd15 (m o : Int) : Mo := ⟨27, 103, [1, 102], [.v (.agg #[(.int .i64 3), (.int .i64 3), (.int .i64 0), (.int .i64 4), (.int .i64 1), (.int .i64 0), (.int .i64 1), (.int .i64 2), (.int .i64 3), (.int .i64 4), (.int .i64 16), (.int .i64 16), (.int .i64 28)]), iv 0, .g [iv 3, iv 0, iv 0, iv 1, .y (.int .i64 m), iv 0, iv 0, .v (.slice none 0 0), .s 0 0 1 1, .v (.slice none 0 0)], .r 1 0 6 6], [⟨41, [iv 1, iv 9], 0, false, []⟩, ⟨48, [iv 0, bo true, iv 0, bo true, iv 4, bo true, iv 25, bo true, .y (.int .i64 o), bo true, iv 0, bo true], 2, false, []⟩], .v (.tuple #[(.agg #[(.int .i64 3), (.int .i64 12), (.int .i64 25), (.int .i64 27), (.string ⟨#[]⟩)]), (.agg #[(.int .i64 0), (.int .i64 0), (.int .i64 0), (.int .i64 0), (.bool false), (.bool false), (.int .i64 0)]), (.bool false)]), [], []⟩
def rd16 (m o : Int) : Mo := ⟨27, 124, [1, 123], [.v (.agg #[(.int .i64 3), (.int .i64 3), (.int .i64 0), (.int .i64 4), (.int .i64 1), (.int .i64 0), (.int .i64 1), (.int .i64 2), (.int .i64 3), (.int .i64 4), (.int .i64 16), (.int .i64 16), (.int .i64 28)]), iv 0, .g [iv 3, iv 0, iv 0, iv 1, .y (.int .i64 m), iv 0, iv 0, .v (.slice none 0 0), .s 0 0 1 1, .v (.slice none 0 0)], .r 1 0 7 7], [⟨41, [iv 1, iv 9], 0, false, []⟩, ⟨48, [iv 0, bo true, iv 0, bo true, iv 4, bo true, iv 25, bo true, .y (.int .i64 o), bo true, iv 0, bo true, iv 25, bo true], 2, false, []⟩], .v (.tuple #[(.agg #[(.int .i64 3), (.int .i64 4), (.int .i64 5), (.int .i64 6), (.string ⟨#[]⟩)]), (.agg #[(.int .i64 0), (.int .i64 0), (.int .i64 0), (.int .i64 0), (.bool false), (.bool false), (.int .i64 0)]), (.bool false)]), [], []⟩
def rd17 (m o : Int) : Mo := ⟨27, 145, [1, 144], [.v (.agg #[(.int .i64 3), (.int .i64 3), (.int .i64 0), (.int .i64 4), (.int .i64 1), (.int .i64 0), (.int .i64 1), (.int .i64 2), (.int .i64 3), (.int .i64 4), (.int .i64 16), (.int .i64 16), (.int .i64 28)]), iv 0, .g [iv 3, iv 0, iv 0, iv 1, .y (.int .i64 m), iv 0, iv 0, .v (.slice none 0 0), .s 0 0 1 1, .v (.slice none 0 0)], .r 1 0 8 8], [⟨41, [iv 1, iv 9], 0, false, []⟩, ⟨48, [iv 0, bo true, iv 0, bo true, iv 4, bo true, iv 25, bo true, .y (.int .i64 o), bo true, iv 0, bo true, iv 25, bo true, iv 5, bo true], 2, false, []⟩], .v (.tuple #[(.agg #[(.int .i64 4), (.int .i64 0), (.int .i64 0), (.int .i64 1), (.string ⟨#[]⟩)]), (.agg #[(.int .i64 0), (.int .i64 0), (.int .i64 0), (.int .i64 0), (.bool false), (.bool false), (.int .i64 0)]), (.bool false)]), [], []⟩
def rd18 (m o : Int) : Mo := ⟨27, 166, [1, 165], [.v (.agg #[(.int .i64 3), (.int .i64 3), (.int .i64 0), (.int .i64 4), (.int .i64 1), (.int .i64 0), (.int .i64 1), (.int .i64 2), (.int .i64 3), (.int .i64 4), (.int .i64 16), (.int .i64 16), (.int .i64 28)]), iv 0, .g [iv 3, iv 0, iv 0, iv 1, .y (.int .i64 m), iv 0, iv 0, .v (.slice none 0 0), .s 0 0 1 1, .v (.slice none 0 0)], .r 1 0 9 9], [⟨41, [iv 1, iv 9], 0, false, []⟩, ⟨48, [iv 0, bo true, iv 0, bo true, iv 4, bo true, iv 25, bo true, .y (.int .i64 o), bo true, iv 0, bo true, iv 25, bo true, iv 5, bo true, iv 0, bo true], 2, false, []⟩], .v (.tuple #[(.agg #[(.int .i64 2), (.int .i64 21), (.int .i64 0), (.int .i64 9), (.string ⟨#[]⟩)]), (.agg #[(.int .i64 0), (.int .i64 0), (.int .i64 0), (.int .i64 0), (.bool false), (.bool false), (.int .i64 0)]), (.bool false)]), [], []⟩
def rd19 (m o : Int) : Mo := ⟨27, 187, [1, 186], [.v (.agg #[(.int .i64 3), (.int .i64 3), (.int .i64 0), (.int .i64 4), (.int .i64 1), (.int .i64 0), (.int .i64 1), (.int .i64 2), (.int .i64 3), (.int .i64 4), (.int .i64 16), (.int .i64 16), (.int .i64 28)]), iv 0, .g [iv 3, iv 0, iv 0, iv 1, .y (.int .i64 m), iv 0, iv 0, .v (.slice none 0 0), .s 0 0 1 1, .v (.slice none 0 0)], .r 1 0 10 10], [⟨41, [iv 1, iv 9], 0, false, []⟩, ⟨48, [iv 0, bo true, iv 0, bo true, iv 4, bo true, iv 25, bo true, .y (.int .i64 o), bo true, iv 0, bo true, iv 25, bo true, iv 5, bo true, iv 0, bo true, iv 0, bo true], 2, false, []⟩], .v (.tuple #[(.agg #[(.int .i64 2), (.int .i64 20), (.int .i64 0), (.int .i64 2), (.string ⟨#[]⟩)]), (.agg #[(.int .i64 0), (.int .i64 0), (.int .i64 0), (.int .i64 0), (.bool false), (.bool false), (.int .i64 0)]), (.bool false)]), [], []⟩
def rd20 (m o : Int) : Mo := ⟨27, 208, [1, 207], [.v (.agg #[(.int .i64 3), (.int .i64 3), (.int .i64 0), (.int .i64 4), (.int .i64 1), (.int .i64 0), (.int .i64 1), (.int .i64 2), (.int .i64 3), (.int .i64 4), (.int .i64 16), (.int .i64 16), (.int .i64 28)]), iv 0, .g [iv 3, iv 0, iv 0, iv 1, .y (.int .i64 m), iv 0, iv 0, .v (.slice none 0 0), .s 0 0 1 1, .v (.slice none 0 0)], .r 1 0 11 11], [⟨41, [iv 1, iv 9], 0, false, []⟩, ⟨48, [iv 0, bo true, iv 0, bo true, iv 4, bo true, iv 25, bo true, .y (.int .i64 o), bo true, iv 0, bo true, iv 25, bo true, iv 5, bo true, iv 0, bo true, iv 0, bo true, iv 1, bo true], 2, false, []⟩], .v (.tuple #[(.agg #[(.int .i64 1), (.int .i64 23), (.int .i64 0), (.int .i64 0), (.string ⟨#[]⟩)]), (.agg #[(.int .i64 0), (.int .i64 0), (.int .i64 0), (.int .i64 0), (.bool false), (.bool false), (.int .i64 0)]), (.bool false)]), [], []⟩
def rd21 (m o : Int) : Mo := ⟨27, 223, [1, 222], [.v (.agg #[(.int .i64 3), (.int .i64 3), (.int .i64 0), (.int .i64 4), (.int .i64 1), (.int .i64 0), (.int .i64 1), (.int .i64 2), (.int .i64 3), (.int .i64 4), (.int .i64 16), (.int .i64 16), (.int .i64 28)]), iv 0, .g [iv 3, iv 0, iv 0, iv 1, .y (.int .i64 m), iv 0, iv 0, .v (.slice none 0 0), .s 0 0 1 1, .v (.slice none 0 0)], .r 1 0 12 12], [⟨41, [iv 1, iv 9], 0, false, []⟩, ⟨48, [iv 0, bo true, iv 0, bo true, iv 4, bo true, iv 25, bo true, .y (.int .i64 o), bo true, iv 0, bo true, iv 25, bo true, iv 5, bo true, iv 0, bo true, iv 0, bo true, iv 1, bo true, iv 0, bo true], 2, false, []⟩], .v (.tuple #[(.agg #[(.int .i64 2), (.int .i64 4), (.int .i64 0), (.int .i64 0), (.string ⟨#[]⟩)]), (.agg #[(.int .i64 0), (.int .i64 0), (.int .i64 0), (.int .i64 0), (.bool false), (.bool false), (.int .i64 0)]), (.bool false)]), [], []⟩
def rd22 (m o : Int) : Mo := ⟨27, 244, [1, 243], [.v (.agg #[(.int .i64 3), (.int .i64 3), (.int .i64 0), (.int .i64 4), (.int .i64 1), (.int .i64 0), (.int .i64 1), (.int .i64 2), (.int .i64 3), (.int .i64 4), (.int .i64 16), (.int .i64 16), (.int .i64 28)]), iv 0, .g [iv 3, iv 0, iv 0, iv 1, .y (.int .i64 m), iv 0, iv 0, .v (.slice none 0 0), .s 0 0 1 1, .v (.slice none 0 0)], .r 1 0 13 13], [⟨41, [iv 1, iv 9], 0, false, []⟩, ⟨48, [iv 0, bo true, iv 0, bo true, iv 4, bo true, iv 25, bo true, .y (.int .i64 o), bo true, iv 0, bo true, iv 25, bo true, iv 5, bo true, iv 0, bo true, iv 0, bo true, iv 1, bo true, iv 0, bo true, iv 6, bo true], 2, false, []⟩], .v (.tuple #[(.agg #[(.int .i64 0), (.int .i64 0), (.int .i64 0), (.int .i64 0), (.string ⟨#[]⟩)]), (.agg #[(.int .i64 0), (.int .i64 1), (.int .i64 0), (.int .i64 0), (.bool true), (.bool false), (.int .i64 0)]), (.bool true)]), [], []⟩
def rd23 (m o : Int) : Mo := ⟨15, 69, [8, 68, 60, 10], [.v (.agg #[(.int .i64 3), (.int .i64 3), (.int .i64 0), (.int .i64 4), (.int .i64 1), (.int .i64 0), (.int .i64 1), (.int .i64 2), (.int .i64 3), (.int .i64 4), (.int .i64 16), (.int .i64 16), (.int .i64 28)]), .p 0 0, iv 0, .g [iv 3, iv 0, iv 0, iv 1, .y (.int .i64 m), iv 0, iv 0, .v (.slice none 0 0), .s 1 0 1 1, .v (.slice none 0 0)]], [⟨56, [.s 2 0 28 28, .s 3 0 4 4], 0, false, []⟩, ⟨41, [iv 1, iv 9], 0, false, []⟩, ⟨3, [iv 0, iv 0, iv 0, iv 0, iv 5, iv 1, iv 0, iv 0, iv 5, iv 2, iv 0, iv 0, iv 25, .y (.int .i64 o), iv 0, iv 0, iv 0, iv 0, iv 0, iv 0, iv 0, iv 0, iv 4, iv 0, iv 0, iv 0, iv 0, iv 0], 0, false, []⟩, ⟨9, [.v (.string ⟨#[]⟩), .v (.string ⟨#[]⟩), .v (.string ⟨#[]⟩), .v (.string ⟨#[]⟩)], 0, false, []⟩], .v (.tuple #[(.agg #[(.int .i64 0), (.int .i64 1), (.int .i64 0), (.int .i64 0), (.bool true), (.bool false), (.int .i64 0)]), (.int .i64 13)]), [(0, some ⟨56, [.s 4 0 28 28, .s 3 0 4 4], 0, false, []⟩)], [⟨3, [iv 1, iv 0, iv 0, iv 0, iv 0, iv 1, iv 0, iv 0, iv 5, iv 2, iv 0, iv 0, iv 27, .y (.int .i64 o), iv 0, iv 0, iv 0, iv 0, iv 0, iv 0, iv 2, iv 9, iv 4, iv 0, iv 0, iv 0, iv 0, iv 0], 0, false, []⟩]⟩
def rd24 (m o : Int) : Mo := ⟨27, 103, [1, 102], [.v (.agg #[(.int .i64 3), (.int .i64 3), (.int .i64 0), (.int .i64 4), (.int .i64 1), (.int .i64 0), (.int .i64 1), (.int .i64 2), (.int .i64 3), (.int .i64 4), (.int .i64 16), (.int .i64 16), (.int .i64 28)]), iv 0, .g [iv 3, iv 0, iv 0, iv 1, .y (.int .i64 m), iv 0, iv 0, .v (.slice none 0 0), .s 0 0 1 1, .v (.slice none 0 0)], .r 1 0 6 6], [⟨41, [iv 1, iv 9], 0, false, []⟩, ⟨48, [iv 0, bo true, iv 0, bo true, iv 4, bo true, iv 25, bo true, .y (.int .i64 o), bo true, iv 0, bo true], 2, false, []⟩], .v (.tuple #[(.agg #[(.int .i64 2), (.int .i64 20), (.int .i64 0), (.int .i64 0), (.string ⟨#[]⟩)]), (.agg #[(.int .i64 0), (.int .i64 0), (.int .i64 0), (.int .i64 0), (.bool false), (.bool false), (.int .i64 0)]), (.bool false)]), [], []⟩
def rd25 (m o : Int) : Mo := ⟨27, 124, [1, 123], [.v (.agg #[(.int .i64 3), (.int .i64 3), (.int .i64 0), (.int .i64 4), (.int .i64 1), (.int .i64 0), (.int .i64 1), (.int .i64 2), (.int .i64 3), (.int .i64 4), (.int .i64 16), (.int .i64 16), (.int .i64 28)]), iv 0, .g [iv 3, iv 0, iv 0, iv 1, .y (.int .i64 m), iv 0, iv 0, .v (.slice none 0 0), .s 0 0 1 1, .v (.slice none 0 0)], .r 1 0 7 7], [⟨41, [iv 1, iv 9], 0, false, []⟩, ⟨48, [iv 0, bo true, iv 0, bo true, iv 4, bo true, iv 25, bo true, .y (.int .i64 o), bo true, iv 0, bo true, iv 1, bo true], 2, false, []⟩], .v (.tuple #[(.agg #[(.int .i64 0), (.int .i64 0), (.int .i64 0), (.int .i64 0), (.string ⟨#[]⟩)]), (.agg #[(.int .i64 0), (.int .i64 0), (.int .i64 0), (.int .i64 0), (.bool false), (.bool true), (.int .i64 0)]), (.bool true)]), [], []⟩
def rd26 (m o : Int) : Mo := ⟨15, 69, [8, 68, 60, 10], [.v (.agg #[(.int .i64 3), (.int .i64 3), (.int .i64 0), (.int .i64 4), (.int .i64 1), (.int .i64 0), (.int .i64 1), (.int .i64 2), (.int .i64 3), (.int .i64 4), (.int .i64 16), (.int .i64 16), (.int .i64 28)]), .p 0 0, iv 0, .g [iv 3, iv 0, iv 0, iv 1, .y (.int .i64 m), iv 0, iv 0, .v (.slice none 0 0), .s 1 0 1 1, .v (.slice none 0 0)]], [⟨56, [.s 2 0 28 28, .s 3 0 4 4], 0, false, []⟩, ⟨41, [iv 1, iv 9], 0, false, []⟩, ⟨3, [iv 0, iv 0, iv 0, iv 0, iv 5, iv 1, iv 0, iv 0, iv 5, iv 2, iv 0, iv 0, iv 25, .y (.int .i64 o), iv 0, iv 0, iv 0, iv 0, iv 0, iv 0, iv 0, iv 0, iv 4, iv 0, iv 0, iv 0, iv 0, iv 0], 0, false, []⟩, ⟨9, [.v (.string ⟨#[]⟩), .v (.string ⟨#[]⟩), .v (.string ⟨#[]⟩), .v (.string ⟨#[]⟩)], 0, false, []⟩], .v (.tuple #[(.agg #[(.int .i64 0), (.int .i64 0), (.int .i64 0), (.int .i64 0), (.bool false), (.bool true), (.int .i64 0)]), (.int .i64 7)]), [(0, some ⟨56, [.s 4 0 28 28, .s 3 0 4 4], 0, false, []⟩)], [⟨3, [iv 0, iv 0, iv 0, iv 0, iv 5, iv 1, iv 0, iv 0, iv 5, iv 2, iv 0, iv 0, iv 25, .y (.int .i64 o), iv 0, iv 0, iv 0, iv 0, iv 0, iv 0, iv 0, iv 0, iv 4, iv 0, iv 0, iv 0, iv 0, iv 0], 0, false, []⟩]⟩
def rd27 (m o : Int) : Mo := ⟨27, 73, [1, 72], [.v (.agg #[(.int .i64 3), (.int .i64 3), (.int .i64 0), (.int .i64 4), (.int .i64 1), (.int .i64 0), (.int .i64 1), (.int .i64 2), (.int .i64 3), (.int .i64 4), (.int .i64 16), (.int .i64 16), (.int .i64 28)]), iv 0, .g [iv 3, iv 0, iv 0, iv 1, .y (.int .i64 m), iv 0, iv 0, .v (.slice none 0 0), .s 0 0 1 1, .v (.slice none 0 0)], .r 1 0 4 4], [⟨41, [iv 1, iv 9], 0, false, []⟩, ⟨48, [iv 0, bo true, iv 0, bo true, iv 4, bo true, iv 26, bo true], 2, false, []⟩], .v (.tuple #[(.agg #[(.int .i64 1), (.int .i64 13), (.int .i64 0), (.int .i64 0), (.string ⟨#[]⟩)]), (.agg #[(.int .i64 0), (.int .i64 0), (.int .i64 0), (.int .i64 0), (.bool false), (.bool false), (.int .i64 0)]), (.bool false)]), [], []⟩
def rd28 (m o : Int) : Mo := ⟨27, 88, [1, 87], [.v (.agg #[(.int .i64 3), (.int .i64 3), (.int .i64 0), (.int .i64 4), (.int .i64 1), (.int .i64 0), (.int .i64 1), (.int .i64 2), (.int .i64 3), (.int .i64 4), (.int .i64 16), (.int .i64 16), (.int .i64 28)]), iv 0, .g [iv 3, iv 0, iv 0, iv 1, .y (.int .i64 m), iv 0, iv 0, .v (.slice none 0 0), .s 0 0 1 1, .v (.slice none 0 0)], .r 1 0 5 5], [⟨41, [iv 1, iv 9], 0, false, []⟩, ⟨48, [iv 0, bo true, iv 0, bo true, iv 4, bo true, iv 26, bo true, .y (.int .i64 o), bo true], 2, false, []⟩], .v (.tuple #[(.agg #[(.int .i64 1), (.int .i64 15), (.int .i64 0), (.int .i64 0), (.string ⟨#[]⟩)]), (.agg #[(.int .i64 0), (.int .i64 0), (.int .i64 0), (.int .i64 0), (.bool false), (.bool false), (.int .i64 0)]), (.bool false)]), [], []⟩
def rd29 (m o : Int) : Mo := ⟨27, 103, [1, 102], [.v (.agg #[(.int .i64 3), (.int .i64 3), (.int .i64 0), (.int .i64 4), (.int .i64 1), (.int .i64 0), (.int .i64 1), (.int .i64 2), (.int .i64 3), (.int .i64 4), (.int .i64 16), (.int .i64 16), (.int .i64 28)]), iv 0, .g [iv 3, iv 0, iv 0, iv 1, .y (.int .i64 m), iv 0, iv 0, .v (.slice none 0 0), .s 0 0 1 1, .v (.slice none 0 0)], .r 1 0 6 6], [⟨41, [iv 1, iv 9], 0, false, []⟩, ⟨48, [iv 0, bo true, iv 0, bo true, iv 4, bo true, iv 26, bo true, .y (.int .i64 o), bo true, iv 0, bo true], 2, false, []⟩], .v (.tuple #[(.agg #[(.int .i64 3), (.int .i64 4), (.int .i64 5), (.int .i64 6), (.string ⟨#[]⟩)]), (.agg #[(.int .i64 0), (.int .i64 0), (.int .i64 0), (.int .i64 0), (.bool false), (.bool false), (.int .i64 0)]), (.bool false)]), [], []⟩
def rd30 (m o : Int) : Mo := ⟨27, 124, [1, 123], [.v (.agg #[(.int .i64 3), (.int .i64 3), (.int .i64 0), (.int .i64 4), (.int .i64 1), (.int .i64 0), (.int .i64 1), (.int .i64 2), (.int .i64 3), (.int .i64 4), (.int .i64 16), (.int .i64 16), (.int .i64 28)]), iv 0, .g [iv 3, iv 0, iv 0, iv 1, .y (.int .i64 m), iv 0, iv 0, .v (.slice none 0 0), .s 0 0 1 1, .v (.slice none 0 0)], .r 1 0 7 7], [⟨41, [iv 1, iv 9], 0, false, []⟩, ⟨48, [iv 0, bo true, iv 0, bo true, iv 4, bo true, iv 26, bo true, .y (.int .i64 o), bo true, iv 0, bo true, iv 5, bo true], 2, false, []⟩], .v (.tuple #[(.agg #[(.int .i64 4), (.int .i64 0), (.int .i64 0), (.int .i64 1), (.string ⟨#[]⟩)]), (.agg #[(.int .i64 0), (.int .i64 0), (.int .i64 0), (.int .i64 0), (.bool false), (.bool false), (.int .i64 0)]), (.bool false)]), [], []⟩
def rd31 (m o : Int) : Mo := ⟨27, 145, [1, 144], [.v (.agg #[(.int .i64 3), (.int .i64 3), (.int .i64 0), (.int .i64 4), (.int .i64 1), (.int .i64 0), (.int .i64 1), (.int .i64 2), (.int .i64 3), (.int .i64 4), (.int .i64 16), (.int .i64 16), (.int .i64 28)]), iv 0, .g [iv 3, iv 0, iv 0, iv 1, .y (.int .i64 m), iv 0, iv 0, .v (.slice none 0 0), .s 0 0 1 1, .v (.slice none 0 0)], .r 1 0 8 8], [⟨41, [iv 1, iv 9], 0, false, []⟩, ⟨48, [iv 0, bo true, iv 0, bo true, iv 4, bo true, iv 26, bo true, .y (.int .i64 o), bo true, iv 0, bo true, iv 5, bo true, iv 0, bo true], 2, false, []⟩], .v (.tuple #[(.agg #[(.int .i64 2), (.int .i64 21), (.int .i64 0), (.int .i64 9), (.string ⟨#[]⟩)]), (.agg #[(.int .i64 0), (.int .i64 0), (.int .i64 0), (.int .i64 0), (.bool false), (.bool false), (.int .i64 0)]), (.bool false)]), [], []⟩
def rd32 (m o : Int) : Mo := ⟨27, 166, [1, 165], [.v (.agg #[(.int .i64 3), (.int .i64 3), (.int .i64 0), (.int .i64 4), (.int .i64 1), (.int .i64 0), (.int .i64 1), (.int .i64 2), (.int .i64 3), (.int .i64 4), (.int .i64 16), (.int .i64 16), (.int .i64 28)]), iv 0, .g [iv 3, iv 0, iv 0, iv 1, .y (.int .i64 m), iv 0, iv 0, .v (.slice none 0 0), .s 0 0 1 1, .v (.slice none 0 0)], .r 1 0 9 9], [⟨41, [iv 1, iv 9], 0, false, []⟩, ⟨48, [iv 0, bo true, iv 0, bo true, iv 4, bo true, iv 26, bo true, .y (.int .i64 o), bo true, iv 0, bo true, iv 5, bo true, iv 0, bo true, iv 0, bo true], 2, false, []⟩], .v (.tuple #[(.agg #[(.int .i64 2), (.int .i64 20), (.int .i64 0), (.int .i64 2), (.string ⟨#[]⟩)]), (.agg #[(.int .i64 0), (.int .i64 0), (.int .i64 0), (.int .i64 0), (.bool false), (.bool false), (.int .i64 0)]), (.bool false)]), [], []⟩
def rd33 (m o : Int) : Mo := ⟨27, 187, [1, 186], [.v (.agg #[(.int .i64 3), (.int .i64 3), (.int .i64 0), (.int .i64 4), (.int .i64 1), (.int .i64 0), (.int .i64 1), (.int .i64 2), (.int .i64 3), (.int .i64 4), (.int .i64 16), (.int .i64 16), (.int .i64 28)]), iv 0, .g [iv 3, iv 0, iv 0, iv 1, .y (.int .i64 m), iv 0, iv 0, .v (.slice none 0 0), .s 0 0 1 1, .v (.slice none 0 0)], .r 1 0 10 10], [⟨41, [iv 1, iv 9], 0, false, []⟩, ⟨48, [iv 0, bo true, iv 0, bo true, iv 4, bo true, iv 26, bo true, .y (.int .i64 o), bo true, iv 0, bo true, iv 5, bo true, iv 0, bo true, iv 0, bo true, iv 1, bo true], 2, false, []⟩], .v (.tuple #[(.agg #[(.int .i64 1), (.int .i64 23), (.int .i64 0), (.int .i64 0), (.string ⟨#[]⟩)]), (.agg #[(.int .i64 0), (.int .i64 0), (.int .i64 0), (.int .i64 0), (.bool false), (.bool false), (.int .i64 0)]), (.bool false)]), [], []⟩
def rd34 (m o : Int) : Mo := ⟨27, 202, [1, 201], [.v (.agg #[(.int .i64 3), (.int .i64 3), (.int .i64 0), (.int .i64 4), (.int .i64 1), (.int .i64 0), (.int .i64 1), (.int .i64 2), (.int .i64 3), (.int .i64 4), (.int .i64 16), (.int .i64 16), (.int .i64 28)]), iv 0, .g [iv 3, iv 0, iv 0, iv 1, .y (.int .i64 m), iv 0, iv 0, .v (.slice none 0 0), .s 0 0 1 1, .v (.slice none 0 0)], .r 1 0 11 11], [⟨41, [iv 1, iv 9], 0, false, []⟩, ⟨48, [iv 0, bo true, iv 0, bo true, iv 4, bo true, iv 26, bo true, .y (.int .i64 o), bo true, iv 0, bo true, iv 5, bo true, iv 0, bo true, iv 0, bo true, iv 1, bo true, iv 0, bo true], 2, false, []⟩], .v (.tuple #[(.agg #[(.int .i64 2), (.int .i64 4), (.int .i64 0), (.int .i64 0), (.string ⟨#[]⟩)]), (.agg #[(.int .i64 0), (.int .i64 0), (.int .i64 0), (.int .i64 0), (.bool false), (.bool false), (.int .i64 0)]), (.bool false)]), [], []⟩
def rd35 (m o : Int) : Mo := ⟨27, 223, [1, 222], [.v (.agg #[(.int .i64 3), (.int .i64 3), (.int .i64 0), (.int .i64 4), (.int .i64 1), (.int .i64 0), (.int .i64 1), (.int .i64 2), (.int .i64 3), (.int .i64 4), (.int .i64 16), (.int .i64 16), (.int .i64 28)]), iv 0, .g [iv 3, iv 0, iv 0, iv 1, .y (.int .i64 m), iv 0, iv 0, .v (.slice none 0 0), .s 0 0 1 1, .v (.slice none 0 0)], .r 1 0 12 12], [⟨41, [iv 1, iv 9], 0, false, []⟩, ⟨48, [iv 0, bo true, iv 0, bo true, iv 4, bo true, iv 26, bo true, .y (.int .i64 o), bo true, iv 0, bo true, iv 5, bo true, iv 0, bo true, iv 0, bo true, iv 1, bo true, iv 0, bo true, iv 6, bo true], 2, false, []⟩], .v (.tuple #[(.agg #[(.int .i64 0), (.int .i64 0), (.int .i64 0), (.int .i64 0), (.string ⟨#[]⟩)]), (.agg #[(.int .i64 0), (.int .i64 1), (.int .i64 0), (.int .i64 0), (.bool true), (.bool false), (.int .i64 0)]), (.bool true)]), [], []⟩
def rd36 (m o : Int) : Mo := ⟨15, 69, [8, 68, 60, 10], [.v (.agg #[(.int .i64 3), (.int .i64 3), (.int .i64 0), (.int .i64 4), (.int .i64 1), (.int .i64 0), (.int .i64 1), (.int .i64 2), (.int .i64 3), (.int .i64 4), (.int .i64 16), (.int .i64 16), (.int .i64 28)]), .p 0 0, iv 0, .g [iv 3, iv 0, iv 0, iv 1, .y (.int .i64 m), iv 0, iv 0, .v (.slice none 0 0), .s 1 0 1 1, .v (.slice none 0 0)]], [⟨56, [.s 2 0 28 28, .s 3 0 4 4], 0, false, []⟩, ⟨41, [iv 1, iv 9], 0, false, []⟩, ⟨3, [iv 0, iv 0, iv 0, iv 0, iv 5, iv 1, iv 0, iv 0, iv 5, iv 2, iv 0, iv 0, iv 26, .y (.int .i64 o), iv 0, iv 0, iv 0, iv 0, iv 0, iv 0, iv 0, iv 0, iv 4, iv 0, iv 0, iv 0, iv 0, iv 0], 0, false, []⟩, ⟨9, [.v (.string ⟨#[]⟩), .v (.string ⟨#[]⟩), .v (.string ⟨#[]⟩), .v (.string ⟨#[]⟩)], 0, false, []⟩], .v (.tuple #[(.agg #[(.int .i64 0), (.int .i64 1), (.int .i64 0), (.int .i64 0), (.bool true), (.bool false), (.int .i64 0)]), (.int .i64 12)]), [(0, some ⟨56, [.s 4 0 28 28, .s 3 0 4 4], 0, false, []⟩)], [⟨3, [iv 1, iv 0, iv 0, iv 0, iv 0, iv 1, iv 0, iv 0, iv 5, iv 2, iv 0, iv 0, iv 26, .y (.int .i64 o), iv 0, iv 0, iv 0, iv 0, iv 0, iv 0, iv 2, iv 9, iv 4, iv 0, iv 0, iv 0, iv 0, iv 0], 0, false, []⟩]⟩
def rd37 (m o : Int) : Mo := ⟨27, 103, [1, 102], [.v (.agg #[(.int .i64 3), (.int .i64 3), (.int .i64 0), (.int .i64 4), (.int .i64 1), (.int .i64 0), (.int .i64 1), (.int .i64 2), (.int .i64 3), (.int .i64 4), (.int .i64 16), (.int .i64 16), (.int .i64 28)]), iv 0, .g [iv 3, iv 0, iv 0, iv 1, .y (.int .i64 m), iv 0, iv 0, .v (.slice none 0 0), .s 0 0 1 1, .v (.slice none 0 0)], .r 1 0 6 6], [⟨41, [iv 1, iv 9], 0, false, []⟩, ⟨48, [iv 0, bo true, iv 0, bo true, iv 4, bo true, iv 26, bo true, .y (.int .i64 o), bo true, iv 0, bo true], 2, false, []⟩], .v (.tuple #[(.agg #[(.int .i64 2), (.int .i64 20), (.int .i64 0), (.int .i64 0), (.string ⟨#[]⟩)]), (.agg #[(.int .i64 0), (.int .i64 0), (.int .i64 0), (.int .i64 0), (.bool false), (.bool false), (.int .i64 0)]), (.bool false)]), [], []⟩
def rd38 (m o : Int) : Mo := ⟨27, 124, [1, 123], [.v (.agg #[(.int .i64 3), (.int .i64 3), (.int .i64 0), (.int .i64 4), (.int .i64 1), (.int .i64 0), (.int .i64 1), (.int .i64 2), (.int .i64 3), (.int .i64 4), (.int .i64 16), (.int .i64 16), (.int .i64 28)]), iv 0, .g [iv 3, iv 0, iv 0, iv 1, .y (.int .i64 m), iv 0, iv 0, .v (.slice none 0 0), .s 0 0 1 1, .v (.slice none 0 0)], .r 1 0 7 7], [⟨41, [iv 1, iv 9], 0, false, []⟩, ⟨48, [iv 0, bo true, iv 0, bo true, iv 4, bo true, iv 26, bo true, .y (.int .i64 o), bo true, iv 0, bo true, iv 1, bo true], 2, false, []⟩], .v (.tuple #[(.agg #[(.int .i64 0), (.int .i64 0), (.int .i64 0), (.int .i64 0), (.string ⟨#[]⟩)]), (.agg #[(.int .i64 0), (.int .i64 0), (.int .i64 0), (.int .i64 0), (.bool false), (.bool true), (.int .i64 0)]), (.bool true)]), [], []⟩
def rd39 (m o : Int) : Mo := ⟨15, 69, [8, 68, 60, 10], [.v (.agg #[(.int .i64 3), (.int .i64 3), (.int .i64 0), (.int .i64 4), (.int .i64 1), (.int .i64 0), (.int .i64 1), (.int .i64 2), (.int .i64 3), (.int .i64 4), (.int .i64 16), (.int .i64 16), (.int .i64 28)]), .p 0 0, iv 0, .g [iv 3, iv 0, iv 0, iv 1, .y (.int .i64 m), iv 0, iv 0, .v (.slice none 0 0), .s 1 0 1 1, .v (.slice none 0 0)]], [⟨56, [.s 2 0 28 28, .s 3 0 4 4], 0, false, []⟩, ⟨41, [iv 1, iv 9], 0, false, []⟩, ⟨3, [iv 0, iv 0, iv 0, iv 0, iv 5, iv 1, iv 0, iv 0, iv 5, iv 2, iv 0, iv 0, iv 26, .y (.int .i64 o), iv 0, iv 0, iv 0, iv 0, iv 0, iv 0, iv 0, iv 0, iv 4, iv 0, iv 0, iv 0, iv 0, iv 0], 0, false, []⟩, ⟨9, [.v (.string ⟨#[]⟩), .v (.string ⟨#[]⟩), .v (.string ⟨#[]⟩), .v (.string ⟨#[]⟩)], 0, false, []⟩], .v (.tuple #[(.agg #[(.int .i64 0), (.int .i64 0), (.int .i64 0), (.int .i64 0), (.bool false), (.bool true), (.int .i64 0)]), (.int .i64 7)]), [(0, some ⟨56, [.s 4 0 28 28, .s 3 0 4 4], 0, false, []⟩)], [⟨3, [iv 0, iv 0, iv 0, iv 0, iv 5, iv 1, iv 0, iv 0, iv 5, iv 2, iv 0, iv 0, iv 26, .y (.int .i64 o), iv 0, iv 0, iv 0, iv 0, iv 0, iv 0, iv 0, iv 0, iv 4, iv 0, iv 0, iv 0, iv 0, iv 0], 0, false, []⟩]⟩
def rd40 (m o : Int) : Mo := ⟨27, 73, [1, 72], [.v (.agg #[(.int .i64 3), (.int .i64 3), (.int .i64 0), (.int .i64 4), (.int .i64 1), (.int .i64 0), (.int .i64 1), (.int .i64 2), (.int .i64 3), (.int .i64 4), (.int .i64 16), (.int .i64 16), (.int .i64 28)]), iv 0, .g [iv 3, iv 0, iv 0, iv 1, .y (.int .i64 m), iv 0, iv 0, .v (.slice none 0 0), .s 0 0 1 1, .v (.slice none 0 0)], .r 1 0 4 4], [⟨41, [iv 1, iv 9], 0, false, []⟩, ⟨48, [iv 0, bo true, iv 0, bo true, iv 4, bo true, iv 27, bo true], 2, false, []⟩], .v (.tuple #[(.agg #[(.int .i64 1), (.int .i64 13), (.int .i64 0), (.int .i64 0), (.string ⟨#[]⟩)]), (.agg #[(.int .i64 0), (.int .i64 0), (.int .i64 0), (.int .i64 0), (.bool false), (.bool false), (.int .i64 0)]), (.bool false)]), [], []⟩
def rd41 (m o : Int) : Mo := ⟨27, 88, [1, 87], [.v (.agg #[(.int .i64 3), (.int .i64 3), (.int .i64 0), (.int .i64 4), (.int .i64 1), (.int .i64 0), (.int .i64 1), (.int .i64 2), (.int .i64 3), (.int .i64 4), (.int .i64 16), (.int .i64 16), (.int .i64 28)]), iv 0, .g [iv 3, iv 0, iv 0, iv 1, .y (.int .i64 m), iv 0, iv 0, .v (.slice none 0 0), .s 0 0 1 1, .v (.slice none 0 0)], .r 1 0 5 5], [⟨41, [iv 1, iv 9], 0, false, []⟩, ⟨48, [iv 0, bo true, iv 0, bo true, iv 4, bo true, iv 27, bo true, .y (.int .i64 o), bo true], 2, false, []⟩], .v (.tuple #[(.agg #[(.int .i64 1), (.int .i64 15), (.int .i64 0), (.int .i64 0), (.string ⟨#[]⟩)]), (.agg #[(.int .i64 0), (.int .i64 0), (.int .i64 0), (.int .i64 0), (.bool false), (.bool false), (.int .i64 0)]), (.bool false)]), [], []⟩
def rd42 (m o : Int) : Mo := ⟨27, 103, [1, 102], [.v (.agg #[(.int .i64 3), (.int .i64 3), (.int .i64 0), (.int .i64 4), (.int .i64 1), (.int .i64 0), (.int .i64 1), (.int .i64 2), (.int .i64 3), (.int .i64 4), (.int .i64 16), (.int .i64 16), (.int .i64 28)]), iv 0, .g [iv 3, iv 0, iv 0, iv 1, .y (.int .i64 m), iv 0, iv 0, .v (.slice none 0 0), .s 0 0 1 1, .v (.slice none 0 0)], .r 1 0 6 6], [⟨41, [iv 1, iv 9], 0, false, []⟩, ⟨48, [iv 0, bo true, iv 0, bo true, iv 4, bo true, iv 27, bo true, .y (.int .i64 o), bo true, iv 0, bo true], 2, false, []⟩], .v (.tuple #[(.agg #[(.int .i64 3), (.int .i64 4), (.int .i64 5), (.int .i64 6), (.string ⟨#[]⟩)]), (.agg #[(.int .i64 0), (.int .i64 0), (.int .i64 0), (.int .i64 0), (.bool false), (.bool false), (.int .i64 0)]), (.bool false)]), [], []⟩
def rd43 (m o : Int) : Mo := ⟨27, 124, [1, 123], [.v (.agg #[(.int .i64 3), (.int .i64 3), (.int .i64 0), (.int .i64 4), (.int .i64 1), (.int .i64 0), (.int .i64 1), (.int .i64 2), (.int .i64 3), (.int .i64 4), (.int .i64 16), (.int .i64 16), (.int .i64 28)]), iv 0, .g [iv 3, iv 0, iv 0, iv 1, .y (.int .i64 m), iv 0, iv 0, .v (.slice none 0 0), .s 0 0 1 1, .v (.slice none 0 0)], .r 1 0 7 7], [⟨41, [iv 1, iv 9], 0, false, []⟩, ⟨48, [iv 0, bo true, iv 0, bo true, iv 4, bo true, iv 27, bo true, .y (.int .i64 o), bo true, iv 0, bo true, iv 5, bo true], 2, false, []⟩], .v (.tuple #[(.agg #[(.int .i64 4), (.int .i64 0), (.int .i64 0), (.int .i64 1), (.string ⟨#[]⟩)]), (.agg #[(.int .i64 0), (.int .i64 0), (.int .i64 0), (.int .i64 0), (.bool false), (.bool false), (.int .i64 0)]), (.bool false)]), [], []⟩
def rd44 (m o : Int) : Mo := ⟨27, 145, [1, 144], [.v (.agg #[(.int .i64 3), (.int .i64 3), (.int .i64 0), (.int .i64 4), (.int .i64 1), (.int .i64 0), (.int .i64 1), (.int .i64 2), (.int .i64 3), (.int .i64 4), (.int .i64 16), (.int .i64 16), (.int .i64 28)]), iv 0, .g [iv 3, iv 0, iv 0, iv 1, .y (.int .i64 m), iv 0, iv 0, .v (.slice none 0 0), .s 0 0 1 1, .v (.slice none 0 0)], .r 1 0 8 8], [⟨41, [iv 1, iv 9], 0, false, []⟩, ⟨48, [iv 0, bo true, iv 0, bo true, iv 4, bo true, iv 27, bo true, .y (.int .i64 o), bo true, iv 0, bo true, iv 5, bo true, iv 0, bo true], 2, false, []⟩], .v (.tuple #[(.agg #[(.int .i64 2), (.int .i64 21), (.int .i64 0), (.int .i64 9), (.string ⟨#[]⟩)]), (.agg #[(.int .i64 0), (.int .i64 0), (.int .i64 0), (.int .i64 0), (.bool false), (.bool false), (.int .i64 0)]), (.bool false)]), [], []⟩
def rd45 (m o : Int) : Mo := ⟨27, 166, [1, 165], [.v (.agg #[(.int .i64 3), (.int .i64 3), (.int .i64 0), (.int .i64 4), (.int .i64 1), (.int .i64 0), (.int .i64 1), (.int .i64 2), (.int .i64 3), (.int .i64 4), (.int .i64 16), (.int .i64 16), (.int .i64 28)]), iv 0, .g [iv 3, iv 0, iv 0, iv 1, .y (.int .i64 m), iv 0, iv 0, .v (.slice none 0 0), .s 0 0 1 1, .v (.slice none 0 0)], .r 1 0 9 9], [⟨41, [iv 1, iv 9], 0, false, []⟩, ⟨48, [iv 0, bo true, iv 0, bo true, iv 4, bo true, iv 27, bo true, .y (.int .i64 o), bo true, iv 0, bo true, iv 5, bo true, iv 0, bo true, iv 0, bo true], 2, false, []⟩], .v (.tuple #[(.agg #[(.int .i64 2), (.int .i64 20), (.int .i64 0), (.int .i64 2), (.string ⟨#[]⟩)]), (.agg #[(.int .i64 0), (.int .i64 0), (.int .i64 0), (.int .i64 0), (.bool false), (.bool false), (.int .i64 0)]), (.bool false)]), [], []⟩
def rd46 (m o : Int) : Mo := ⟨27, 187, [1, 186], [.v (.agg #[(.int .i64 3), (.int .i64 3), (.int .i64 0), (.int .i64 4), (.int .i64 1), (.int .i64 0), (.int .i64 1), (.int .i64 2), (.int .i64 3), (.int .i64 4), (.int .i64 16), (.int .i64 16), (.int .i64 28)]), iv 0, .g [iv 3, iv 0, iv 0, iv 1, .y (.int .i64 m), iv 0, iv 0, .v (.slice none 0 0), .s 0 0 1 1, .v (.slice none 0 0)], .r 1 0 10 10], [⟨41, [iv 1, iv 9], 0, false, []⟩, ⟨48, [iv 0, bo true, iv 0, bo true, iv 4, bo true, iv 27, bo true, .y (.int .i64 o), bo true, iv 0, bo true, iv 5, bo true, iv 0, bo true, iv 0, bo true, iv 1, bo true], 2, false, []⟩], .v (.tuple #[(.agg #[(.int .i64 1), (.int .i64 23), (.int .i64 0), (.int .i64 0), (.string ⟨#[]⟩)]), (.agg #[(.int .i64 0), (.int .i64 0), (.int .i64 0), (.int .i64 0), (.bool false), (.bool false), (.int .i64 0)]), (.bool false)]), [], []⟩
def rd47 (m o : Int) : Mo := ⟨27, 202, [1, 201], [.v (.agg #[(.int .i64 3), (.int .i64 3), (.int .i64 0), (.int .i64 4), (.int .i64 1), (.int .i64 0), (.int .i64 1), (.int .i64 2), (.int .i64 3), (.int .i64 4), (.int .i64 16), (.int .i64 16), (.int .i64 28)]), iv 0, .g [iv 3, iv 0, iv 0, iv 1, .y (.int .i64 m), iv 0, iv 0, .v (.slice none 0 0), .s 0 0 1 1, .v (.slice none 0 0)], .r 1 0 11 11], [⟨41, [iv 1, iv 9], 0, false, []⟩, ⟨48, [iv 0, bo true, iv 0, bo true, iv 4, bo true, iv 27, bo true, .y (.int .i64 o), bo true, iv 0, bo true, iv 5, bo true, iv 0, bo true, iv 0, bo true, iv 1, bo true, iv 0, bo true], 2, false, []⟩], .v (.tuple #[(.agg #[(.int .i64 2), (.int .i64 4), (.int .i64 0), (.int .i64 0), (.string ⟨#[]⟩)]), (.agg #[(.int .i64 0), (.int .i64 0), (.int .i64 0), (.int .i64 0), (.bool false), (.bool false), (.int .i64 0)]), (.bool false)]), [], []⟩
def rd48 (m o : Int) : Mo := ⟨27, 223, [1, 222], [.v (.agg #[(.int .i64 3), (.int .i64 3), (.int .i64 0), (.int .i64 4), (.int .i64 1), (.int .i64 0), (.int .i64 1), (.int .i64 2), (.int .i64 3), (.int .i64 4), (.int .i64 16), (.int .i64 16), (.int .i64 28)]), iv 0, .g [iv 3, iv 0, iv 0, iv 1, .y (.int .i64 m), iv 0, iv 0, .v (.slice none 0 0), .s 0 0 1 1, .v (.slice none 0 0)], .r 1 0 12 12], [⟨41, [iv 1, iv 9], 0, false, []⟩, ⟨48, [iv 0, bo true, iv 0, bo true, iv 4, bo true, iv 27, bo true, .y (.int .i64 o), bo true, iv 0, bo true, iv 5, bo true, iv 0, bo true, iv 0, bo true, iv 1, bo true, iv 0, bo true, iv 6, bo true], 2, false, []⟩], .v (.tuple #[(.agg #[(.int .i64 0), (.int .i64 0), (.int .i64 0), (.int .i64 0), (.string ⟨#[]⟩)]), (.agg #[(.int .i64 0), (.int .i64 1), (.int .i64 0), (.int .i64 0), (.bool true), (.bool false), (.int .i64 0)]), (.bool true)]), [], []⟩
def rd49 (m o : Int) : Mo := ⟨15, 69, [8, 68, 60, 10], [.v (.agg #[(.int .i64 3), (.int .i64 3), (.int .i64 0), (.int .i64 4), (.int .i64 1), (.int .i64 0), (.int .i64 1), (.int .i64 2), (.int .i64 3), (.int .i64 4), (.int .i64 16), (.int .i64 16), (.int .i64 28)]), .p 0 0, iv 0, .g [iv 3, iv 0, iv 0, iv 1, .y (.int .i64 m), iv 0, iv 0, .v (.slice none 0 0), .s 1 0 1 1, .v (.slice none 0 0)]], [⟨56, [.s 2 0 28 28, .s 3 0 4 4], 0, false, []⟩, ⟨41, [iv 1, iv 9], 0, false, []⟩, ⟨3, [iv 0, iv 0, iv 0, iv 0, iv 5, iv 1, iv 0, iv 0, iv 5, iv 2, iv 0, iv 0, iv 27, .y (.int .i64 o), iv 0, iv 0, iv 0, iv 0, iv 0, iv 0, iv 0, iv 0, iv 4, iv 0, iv 0, iv 0, iv 0, iv 0], 0, false, []⟩, ⟨9, [.v (.string ⟨#[]⟩), .v (.string ⟨#[]⟩), .v (.string ⟨#[]⟩), .v (.string ⟨#[]⟩)], 0, false, []⟩], .v (.tuple #[(.agg #[(.int .i64 0), (.int .i64 1), (.int .i64 0), (.int .i64 0), (.bool true), (.bool false), (.int .i64 0)]), (.int .i64 12)]), [(0, some ⟨56, [.s 4 0 28 28, .s 3 0 4 4], 0, false, []⟩)], [⟨3, [iv 1, iv 0, iv 0, iv 0, iv 0, iv 1, iv 0, iv 0, iv 5, iv 2, iv 0, iv 0, iv 27, .y (.int .i64 o), iv 0, iv 0, iv 0, iv 0, iv 0, iv 0, iv 2, iv 9, iv 4, iv 0, iv 0, iv 0, iv 0, iv 0], 0, false, []⟩]⟩
def rd50 (m o : Int) : Mo := ⟨27, 103, [1, 102], [.v (.agg #[(.int .i64 3), (.int .i64 3), (.int .i64 0), (.int .i64 4), (.int .i64 1), (.int .i64 0), (.int .i64 1), (.int .i64 2), (.int .i64 3), (.int .i64 4), (.int .i64 16), (.int .i64 16), (.int .i64 28)]), iv 0, .g [iv 3, iv 0, iv 0, iv 1, .y (.int .i64 m), iv 0, iv 0, .v (.slice none 0 0), .s 0 0 1 1, .v (.slice none 0 0)], .r 1 0 6 6], [⟨41, [iv 1, iv 9], 0, false, []⟩, ⟨48, [iv 0, bo true, iv 0, bo true, iv 4, bo true, iv 27, bo true, .y (.int .i64 o), bo true, iv 0, bo true], 2, false, []⟩], .v (.tuple #[(.agg #[(.int .i64 2), (.int .i64 20), (.int .i64 0), (.int .i64 0), (.string ⟨#[]⟩)]), (.agg #[(.int .i64 0), (.int .i64 0), (.int .i64 0), (.int .i64 0), (.bool false), (.bool false), (.int .i64 0)]), (.bool false)]), [], []⟩
def rd51 (m o : Int) : Mo := ⟨27, 124, [1, 123], [.v (.agg #[(.int .i64 3), (.int .i64 3), (.int .i64 0), (.int .i64 4), (.int .i64 1), (.int .i64 0), (.int .i64 1), (.int .i64 2), (.int .i64 3), (.int .i64 4), (.int .i64 16), (.int .i64 16), (.int .i64 28)]), iv 0, .g [iv 3, iv 0, iv 0, iv 1, .y (.int .i64 m), iv 0, iv 0, .v (.slice none 0 0), .s 0 0 1 1, .v (.slice none 0 0)], .r 1 0 7 7], [⟨41, [iv 1, iv 9], 0, false, []⟩, ⟨48, [iv 0, bo true, iv 0, bo true, iv 4, bo true, iv 27, bo true, .y (.int .i64 o), bo true, iv 0, bo true, iv 1, bo true], 2, false, []⟩], .v (.tuple #[(.agg #[(.int .i64 0), (.int .i64 0), (.int .i64 0), (.int .i64 0), (.string ⟨#[]⟩)]), (.agg #[(.int .i64 0), (.int .i64 0), (.int .i64 0), (.int .i64 0), (.bool false), (.bool true), (.int .i64 0)]), (.bool true)]), [], []⟩
def rd52 (m o : Int) : Mo := ⟨15, 69, [8, 68, 60, 10], [.v (.agg #[(.int .i64 3), (.int .i64 3), (.int .i64 0), (.int .i64 4), (.int .i64 1), (.int .i64 0), (.int .i64 1), (.int .i64 2), (.int .i64 3), (.int .i64 4), (.int .i64 16), (.int .i64 16), (.int .i64 28)]), .p 0 0, iv 0, .g [iv 3, iv 0, iv 0, iv 1, .y (.int .i64 m), iv 0, iv 0, .v (.slice none 0 0), .s 1 0 1 1, .v (.slice none 0 0)]], [⟨56, [.s 2 0 28 28, .s 3 0 4 4], 0, false, []⟩, ⟨41, [iv 1, iv 9], 0, false, []⟩, ⟨3, [iv 0, iv 0, iv 0, iv 0, iv 5, iv 1, iv 0, iv 0, iv 5, iv 2, iv 0, iv 0, iv 27, .y (.int .i64 o), iv 0, iv 0, iv 0, iv 0, iv 0, iv 0, iv 0, iv 0, iv 4, iv 0, iv 0, iv 0, iv 0, iv 0], 0, false, []⟩, ⟨9, [.v (.string ⟨#[]⟩), .v (.string ⟨#[]⟩), .v (.string ⟨#[]⟩), .v (.string ⟨#[]⟩)], 0, false, []⟩], .v (.tuple #[(.agg #[(.int .i64 0), (.int .i64 0), (.int .i64 0), (.int .i64 0), (.bool false), (.bool true), (.int .i64 0)]), (.int .i64 7)]), [(0, some ⟨56, [.s 4 0 28 28, .s 3 0 4 4], 0, false, []⟩)], [⟨3, [iv 0, iv 0, iv 0, iv 0, iv 5, iv 1, iv 0, iv 0, iv 5, iv 2, iv 0, iv 0, iv 27, .y (.int .i64 o), iv 0, iv 0, iv 0, iv 0, iv 0, iv 0, iv 0, iv 0, iv 4, iv 0, iv 0, iv 0, iv 0, iv 0], 0, false, []⟩]⟩
end Go.Proofs.YtmickhoededbcaaGreat


/-
  Runs of known calls, each in a small memory of its own.
-/
namespace Go.Proofs.YtmickhoededbcaaGreat
open Go Go.RowKit EX
set_option maxRecDepth 100000
set_option linter.unusedVariables false
set_option maxHeartbeats 4000000 in
theorem rd0_ok (m o : Int)  : KnGOk Tryz.prog (kgMo (rd0 m o)) :=
  kgMo_ok (kn := gk knNone) (gk_ok knNone_ok) 100000 (rd0 m o) [] [75, 24, 74] [] (by kernel_rfl) (trs (trivial)) (by kernel_rfl)
set_option maxHeartbeats 4000000 in
theorem rd1_ok (m o : Int)  : KnGOk Tryz.prog (kgMo (rd1 m o)) :=
  kgMo_ok (kn := gk knNone) (gk_ok knNone_ok) 100000 (rd1 m o) [] [] [] (by kernel_rfl) (trs (trivial)) (by kernel_rfl)
set_option maxHeartbeats 4000000 in
theorem rd2_ok (m o : Int)  : KnGOk Tryz.prog (kgMo (rd2 m o)) :=
  kgMo_ok (kn := gk knNone) (gk_ok knNone_ok) 100000 (rd2 m o) [] [] [] (by kernel_rfl) (trs (trivial)) (by kernel_rfl)
end Go.Proofs.YtmickhoededbcaaGreat


/-
  Runs of known calls, each in a small memory of its own.
-/
namespace Go.Proofs.YtmickhoededbcaaGreat
open Go Go.RowKit EX
set_option maxRecDepth 100000
set_option linter.unusedVariables false
set_option maxHeartbeats 4000000 in
theorem rd3_ok (m o : Int)  : KnGOk Tryz.prog (kgMo (rd3 m o)) :=
  kgMo_ok (kn := gk knNone) (gk_ok knNone_ok) 100000 (rd3 m o) [] [] [] (by kernel_rfl) (trs (trivial)) (by kernel_rfl)
set_option maxHeartbeats 4000000 in
theorem rd4_ok (m o : Int)  : KnGOk Tryz.prog (kgMo (rd4 m o)) :=
  kgMo_ok (kn := gk knNone) (gk_ok knNone_ok) 100000 (rd4 m o) [] [] [] (by kernel_rfl) (trs (trivial)) (by kernel_rfl)
set_option maxHeartbeats 4000000 in
theorem rd5_ok (m o : Int)  : KnGOk Tryz.prog (kgMo (rd5 m o)) :=
  kgMo_ok (kn := gk knNone) (gk_ok knNone_ok) 100000 (rd5 m o) [] [] [] (by kernel_rfl) (trs (trivial)) (by kernel_rfl)
end Go.Proofs.YtmickhoededbcaaGreat


/-
  Runs of known calls, each in a small memory of its own.
-/
namespace Go.Proofs.YtmickhoededbcaaGreat
open Go Go.RowKit EX
set_option maxRecDepth 100000
set_option linter.unusedVariables false
set_option maxHeartbeats 4000000 in
theorem rd6_ok (m o : Int)  : KnGOk Tryz.prog (kgMo (rd6 m o)) :=
  kgMo_ok (kn := gk knNone) (gk_ok knNone_ok) 100000 (rd6 m o) [] [] [] (by kernel_rfl) (trs (trivial)) (by kernel_rfl)
set_option maxHeartbeats 4000000 in
theorem rd7_ok (m o : Int)  : KnGOk Tryz.prog (kgMo (rd7 m o)) :=
  kgMo_ok (kn := gk knNone) (gk_ok knNone_ok) 100000 (rd7 m o) [] [] [] (by kernel_rfl) (trs (trivial)) (by kernel_rfl)
set_option maxHeartbeats 4000000 in
theorem rd8_ok (m o : Int)  : KnGOk Tryz.prog (kgMo (rd8 m o)) :=
  kgMo_ok (kn := gk knNone) (gk_ok knNone_ok) 100000 (rd8 m o) [] [] [] (by kernel_rfl) (trs (trivial)) (by kernel_rfl)
end Go.Proofs.YtmickhoededbcaaGreat


/-
  Runs of known calls, each in a small memory of its own.
-/
namespace Go.Proofs.YtmickhoededbcaaGreat
open Go Go.RowKit EX
set_option maxRecDepth 100000
set_option linter.unusedVariables false
set_option maxHeartbeats 4000000 in
theorem rd9_ok (m o : Int)  : KnGOk Tryz.prog (kgMo (rd9 m o)) :=
  kgMo_ok (kn := gk knNone) (gk_ok knNone_ok) 100000 (rd9 m o) [] [] [] (by kernel_rfl) (trs (trivial)) (by kernel_rfl)
set_option maxHeartbeats 4000000 in
theorem rd10_ok (m o : Int)  : KnGOk Tryz.prog (kgMo (rd10 m o)) :=
  kgMo_ok (kn := gk knNone) (gk_ok knNone_ok) 100000 (rd10 m o) [] [] [] (by kernel_rfl) (trs (trivial)) (by kernel_rfl)
set_option maxHeartbeats 4000000 in
theorem rd11_ok (m o : Int)  : KnGOk Tryz.prog (kgMo (rd11 m o)) :=
  kgMo_ok (kn := gk knNone) (gk_ok knNone_ok) 100000 (rd11 m o) [] [] [] (by kernel_rfl) (trs (trivial)) (by kernel_rfl)
end Go.Proofs.YtmickhoededbcaaGreat


/-
  Runs of known calls, each in a small memory of its own.
-/
namespace Go.Proofs.YtmickhoededbcaaGreat
open Go Go.RowKit EX
set_option maxRecDepth 100000
set_option linter.unusedVariables false
set_option maxHeartbeats 4000000 in
theorem rd13_ok (m o : Int)  : KnGOk Tryz.prog (kgMo (rd13 m o)) :=
  kgMo_ok (kn := gk knNone) (gk_ok knNone_ok) 100000 (rd13 m o) [] [] [] (by kernel_rfl) (trs (trivial)) (by kernel_rfl)
set_option maxHeartbeats 4000000 in
theorem rd14_ok (m o : Int)  : KnGOk Tryz.prog (kgMo (rd14 m o)) :=
  kgMo_ok (kn := gk knNone) (gk_ok knNone_ok) 100000 (rd14 m o) [] [] [] (by kernel_rfl) (trs (trivial)) (by kernel_rfl)
set_option maxHeartbeats 4000000 in
theorem rd15_ok (m o : Int) (h : decide (m < o) = true) : KnGOk Tryz.prog (kgMo (rd15 m o)) :=
  kgMo_ok (kn := gk knNone) (gk_ok knNone_ok) 100000 (rd15 m o) [.bool true] [] [(.bool (decide (m < o)), (.bool true))] (by kernel_rfl) (trs (⟨congrArg Value.bool h, trivial⟩)) (by kernel_rfl)
end Go.Proofs.YtmickhoededbcaaGreat


/-
  Runs of known calls, each in a small memory of its own.
-/
namespace Go.Proofs.YtmickhoededbcaaGreat
open Go Go.RowKit EX
set_option maxRecDepth 100000
set_option linter.unusedVariables false
set_option maxHeartbeats 4000000 in
theorem rd16_ok (m o : Int) (h : decide (m < o) = true) : KnGOk Tryz.prog (kgMo (rd16 m o)) :=
  kgMo_ok (kn := gk knNone) (gk_ok knNone_ok) 100000 (rd16 m o) [.bool true] [] [(.bool (decide (m < o)), (.bool true))] (by kernel_rfl) (trs (⟨congrArg Value.bool h, trivial⟩)) (by kernel_rfl)
set_option maxHeartbeats 4000000 in
theorem rd17_ok (m o : Int) (h : decide (m < o) = true) : KnGOk Tryz.prog (kgMo (rd17 m o)) :=
  kgMo_ok (kn := gk knNone) (gk_ok knNone_ok) 100000 (rd17 m o) [.bool true] [] [(.bool (decide (m < o)), (.bool true))] (by kernel_rfl) (trs (⟨congrArg Value.bool h, trivial⟩)) (by kernel_rfl)
set_option maxHeartbeats 4000000 in
theorem rd18_ok (m o : Int) (h : decide (m < o) = true) : KnGOk Tryz.prog (kgMo (rd18 m o)) :=
  kgMo_ok (kn := gk knNone) (gk_ok knNone_ok) 100000 (rd18 m o) [.bool true] [] [(.bool (decide (m < o)), (.bool true))] (by kernel_rfl) (trs (⟨congrArg Value.bool h, trivial⟩)) (by kernel_rfl)
end Go.Proofs.YtmickhoededbcaaGreat


/-
  Runs of known calls, each in a small memory of its own.
-/
namespace Go.Proofs.YtmickhoededbcaaGreat
open Go Go.RowKit EX
set_option maxRecDepth 100000
set_option linter.unusedVariables false
set_option maxHeartbeats 4000000 in
theorem rd19_ok (m o : Int) (h : decide (m < o) = true) : KnGOk Tryz.prog (kgMo (rd19 m o)) :=
  kgMo_ok (kn := gk knNone) (gk_ok knNone_ok) 100000 (rd19 m o) [.bool true] [] [(.bool (decide (m < o)), (.bool true))] (by kernel_rfl) (trs (⟨congrArg Value.bool h, trivial⟩)) (by kernel_rfl)
set_option maxHeartbeats 4000000 in
theorem rd20_ok (m o : Int) (h : decide (m < o) = true) : KnGOk Tryz.prog (kgMo (rd20 m o)) :=
  kgMo_ok (kn := gk knNone) (gk_ok knNone_ok) 100000 (rd20 m o) [.bool true] [] [(.bool (decide (m < o)), (.bool true))] (by kernel_rfl) (trs (⟨congrArg Value.bool h, trivial⟩)) (by kernel_rfl)
set_option maxHeartbeats 4000000 in
theorem rd21_ok (m o : Int) (h : decide (m < o) = true) : KnGOk Tryz.prog (kgMo (rd21 m o)) :=
  kgMo_ok (kn := gk knNone) (gk_ok knNone_ok) 100000 (rd21 m o) [.bool true] [] [(.bool (decide (m < o)), (.bool true))] (by kernel_rfl) (trs (⟨congrArg Value.bool h, trivial⟩)) (by kernel_rfl)
end Go.Proofs.YtmickhoededbcaaGreat


/-
  Runs of known calls, each in a small memory of its own.
-/
namespace Go.Proofs.YtmickhoededbcaaGreat
open Go Go.RowKit EX
set_option maxRecDepth 100000
set_option linter.unusedVariables false
set_option maxHeartbeats 4000000 in
theorem rd22_ok (m o : Int) (h : decide (m < o) = true) : KnGOk Tryz.prog (kgMo (rd22 m o)) :=
  kgMo_ok (kn := gk knNone) (gk_ok knNone_ok) 100000 (rd22 m o) [.bool true] [] [(.bool (decide (m < o)), (.bool true))] (by kernel_rfl) (trs (⟨congrArg Value.bool h, trivial⟩)) (by kernel_rfl)
set_option maxHeartbeats 4000000 in
theorem rd24_ok (m o : Int) (h : decide (m < o) = false) : KnGOk Tryz.prog (kgMo (rd24 m o)) :=
  kgMo_ok (kn := gk knNone) (gk_ok knNone_ok) 100000 (rd24 m o) [.bool false] [] [(.bool (decide (m < o)), (.bool false))] (by kernel_rfl) (trs (⟨congrArg Value.bool h, trivial⟩)) (by kernel_rfl)
set_option maxHeartbeats 4000000 in
theorem rd25_ok (m o : Int) (h : decide (m < o) = false) : KnGOk Tryz.prog (kgMo (rd25 m o)) :=
  kgMo_ok (kn := gk knNone) (gk_ok knNone_ok) 100000 (rd25 m o) [.bool false] [] [(.bool (decide (m < o)), (.bool false))] (by kernel_rfl) (trs (⟨congrArg Value.bool h, trivial⟩)) (by kernel_rfl)
end Go.Proofs.YtmickhoededbcaaGreat


/-
  Runs of known calls, each in a small memory of its own.
-/
namespace Go.Proofs.YtmickhoededbcaaGreat
open Go Go.RowKit EX
set_option maxRecDepth 100000
set_option linter.unusedVariables false
set_option maxHeartbeats 4000000 in
theorem rd12_ok (m o : Int)  : KnGOk Tryz.prog (kgMo (rd12 m o)) :=
  kgMo_ok (kn := kgOr (kgMo (rd1 m o)) (kgOr (kgMo (rd2 m o)) (kgOr (kgMo (rd3 m o)) (kgOr (kgMo (rd4 m o)) (kgOr (kgMo (rd5 m o)) (kgOr (kgMo (rd6 m o)) (kgOr (kgMo (rd7 m o)) (kgOr (kgMo (rd8 m o)) (kgOr (kgMo (rd9 m o)) (kgOr (kgMo (rd10 m o)) (kgOr (kgMo (rd11 m o)) (gk knNone)))))))))))) (kgOr_ok (rd1_ok m o) (kgOr_ok (rd2_ok m o) (kgOr_ok (rd3_ok m o) (kgOr_ok (rd4_ok m o) (kgOr_ok (rd5_ok m o) (kgOr_ok (rd6_ok m o) (kgOr_ok (rd7_ok m o) (kgOr_ok (rd8_ok m o) (kgOr_ok (rd9_ok m o) (kgOr_ok (rd10_ok m o) (kgOr_ok (rd11_ok m o) (gk_ok knNone_ok)))))))))))) 100000 (rd12 m o) [] [183] [((.int .i64 m), (.int .i64 m)), ((.int .i64 m), (.int .i64 m)), ((.int .i64 m), (.int .i64 m)), ((.int .i64 m), (.int .i64 m)), ((.int .i64 m), (.int .i64 m)), ((.int .i64 m), (.int .i64 m)), ((.int .i64 m), (.int .i64 m)), ((.int .i64 m), (.int .i64 m)), ((.int .i64 m), (.int .i64 m)), ((.int .i64 m), (.int .i64 m)), ((.int .i64 m), (.int .i64 m))] (by kernel_rfl) (trs (⟨rfl, ⟨rfl, ⟨rfl, ⟨rfl, ⟨rfl, ⟨rfl, ⟨rfl, ⟨rfl, ⟨rfl, ⟨rfl, ⟨rfl, trivial⟩⟩⟩⟩⟩⟩⟩⟩⟩⟩⟩)) (by kernel_rfl)
set_option maxHeartbeats 4000000 in
theorem rd23_ok (m o : Int) (h : decide (m < o) = true) : KnGOk Tryz.prog (kgMo (rd23 m o)) :=
  kgMo_ok (kn := kgOr (kgMo (rd1 m o)) (kgOr (kgMo (rd2 m o)) (kgOr (kgMo (rd3 m o)) (kgOr (kgMo (rd4 m o)) (kgOr (kgMo (rd13 m o)) (kgOr (kgMo (rd14 m o)) (kgOr (kgMo (rd15 m o)) (kgOr (kgMo (rd16 m o)) (kgOr (kgMo (rd17 m o)) (kgOr (kgMo (rd18 m o)) (kgOr (kgMo (rd19 m o)) (kgOr (kgMo (rd20 m o)) (kgOr (kgMo (rd21 m o)) (kgOr (kgMo (rd22 m o)) (gk knNone))))))))))))))) (kgOr_ok (rd1_ok m o) (kgOr_ok (rd2_ok m o) (kgOr_ok (rd3_ok m o) (kgOr_ok (rd4_ok m o) (kgOr_ok (rd13_ok m o) (kgOr_ok (rd14_ok m o) (kgOr_ok (rd15_ok m o h) (kgOr_ok (rd16_ok m o h) (kgOr_ok (rd17_ok m o h) (kgOr_ok (rd18_ok m o h) (kgOr_ok (rd19_ok m o h) (kgOr_ok (rd20_ok m o h) (kgOr_ok (rd21_ok m o h) (kgOr_ok (rd22_ok m o h) (gk_ok knNone_ok))))))))))))))) 100000 (rd23 m o) [] [234] [((.int .i64 m), (.int .i64 m)), ((.int .i64 o), (.int .i64 o)), ((.int .i64 m), (.int .i64 m)), ((.int .i64 o), (.int .i64 o)), ((.int .i64 m), (.int .i64 m)), ((.int .i64 o), (.int .i64 o)), ((.int .i64 m), (.int .i64 m)), ((.int .i64 o), (.int .i64 o)), ((.int .i64 m), (.int .i64 m)), ((.int .i64 o), (.int .i64 o)), ((.int .i64 m), (.int .i64 m)), ((.int .i64 o), (.int .i64 o)), ((.int .i64 m), (.int .i64 m)), ((.int .i64 o), (.int .i64 o)), ((.int .i64 m), (.int .i64 m)), ((.int .i64 o), (.int .i64 o)), ((.int .i64 m), (.int .i64 m)), ((.int .i64 o), (.int .i64 o)), ((.int .i64 m), (.int .i64 m)), ((.int .i64 m), (.int .i64 m)), ((.int .i64 m), (.int .i64 m)), ((.int .i64 m), (.int .i64 m)), ((.int .i64 m), (.int .i64 m))] (by kernel_rfl) (trs (⟨rfl, ⟨rfl, ⟨rfl, ⟨rfl, ⟨rfl, ⟨rfl, ⟨rfl, ⟨rfl, ⟨rfl, ⟨rfl, ⟨rfl, ⟨rfl, ⟨rfl, ⟨rfl, ⟨rfl, ⟨rfl, ⟨rfl, ⟨rfl, ⟨rfl, ⟨rfl, ⟨rfl, ⟨rfl, ⟨rfl, trivial⟩⟩⟩⟩⟩⟩⟩⟩⟩⟩⟩⟩⟩⟩⟩⟩⟩⟩⟩⟩⟩⟩⟩)) (by kernel_rfl)
set_option maxHeartbeats 4000000 in
theorem rd26_ok (m o : Int) (h : decide (m < o) = false) : KnGOk Tryz.prog (kgMo (rd26 m o)) :=
  kgMo_ok (kn := kgOr (kgMo (rd1 m o)) (kgOr (kgMo (rd2 m o)) (kgOr (kgMo (rd3 m o)) (kgOr (kgMo (rd4 m o)) (kgOr (kgMo (rd13 m o)) (kgOr (kgMo (rd14 m o)) (kgOr (kgMo (rd24 m o)) (kgOr (kgMo (rd25 m o)) (gk knNone))))))))) (kgOr_ok (rd1_ok m o) (kgOr_ok (rd2_ok m o) (kgOr_ok (rd3_ok m o) (kgOr_ok (rd4_ok m o) (kgOr_ok (rd13_ok m o) (kgOr_ok (rd14_ok m o) (kgOr_ok (rd24_ok m o h) (kgOr_ok (rd25_ok m o h) (gk_ok knNone_ok))))))))) 100000 (rd26 m o) [] [114] [((.int .i64 m), (.int .i64 m)), ((.int .i64 o), (.int .i64 o)), ((.int .i64 m), (.int .i64 m)), ((.int .i64 o), (.int .i64 o)), ((.int .i64 m), (.int .i64 m)), ((.int .i64 o), (.int .i64 o)), ((.int .i64 m), (.int .i64 m)), ((.int .i64 m), (.int .i64 m)), ((.int .i64 m), (.int .i64 m)), ((.int .i64 m), (.int .i64 m)), ((.int .i64 m), (.int .i64 m))] (by kernel_rfl) (trs (⟨rfl, ⟨rfl, ⟨rfl, ⟨rfl, ⟨rfl, ⟨rfl, ⟨rfl, ⟨rfl, ⟨rfl, ⟨rfl, ⟨rfl, trivial⟩⟩⟩⟩⟩⟩⟩⟩⟩⟩⟩)) (by kernel_rfl)
end Go.Proofs.YtmickhoededbcaaGreat


/-
  Runs of known calls, each in a small memory of its own.
-/
namespace Go.Proofs.YtmickhoededbcaaGreat
open Go Go.RowKit EX
set_option maxRecDepth 100000
set_option linter.unusedVariables false
set_option maxHeartbeats 4000000 in
theorem rd33_ok (m o : Int) (h : decide (m < o) = true) : KnGOk Tryz.prog (kgMo (rd33 m o)) :=
  kgMo_ok (kn := gk knNone) (gk_ok knNone_ok) 100000 (rd33 m o) [.bool true] [] [(.bool (decide (m < o)), (.bool true))] (by kernel_rfl) (trs (⟨congrArg Value.bool h, trivial⟩)) (by kernel_rfl)
set_option maxHeartbeats 4000000 in
theorem rd34_ok (m o : Int) (h : decide (m < o) = true) : KnGOk Tryz.prog (kgMo (rd34 m o)) :=
  kgMo_ok (kn := gk knNone) (gk_ok knNone_ok) 100000 (rd34 m o) [.bool true] [] [(.bool (decide (m < o)), (.bool true))] (by kernel_rfl) (trs (⟨congrArg Value.bool h, trivial⟩)) (by kernel_rfl)
set_option maxHeartbeats 4000000 in
theorem rd35_ok (m o : Int) (h : decide (m < o) = true) : KnGOk Tryz.prog (kgMo (rd35 m o)) :=
  kgMo_ok (kn := gk knNone) (gk_ok knNone_ok) 100000 (rd35 m o) [.bool true] [] [(.bool (decide (m < o)), (.bool true))] (by kernel_rfl) (trs (⟨congrArg Value.bool h, trivial⟩)) (by kernel_rfl)
end Go.Proofs.YtmickhoededbcaaGreat


/-
  Runs of known calls, each in a small memory of its own.
-/
namespace Go.Proofs.YtmickhoededbcaaGreat
open Go Go.RowKit EX
set_option maxRecDepth 100000
set_option linter.unusedVariables false
set_option maxHeartbeats 4000000 in
theorem rd37_ok (m o : Int) (h : decide (m < o) = false) : KnGOk Tryz.prog (kgMo (rd37 m o)) :=
  kgMo_ok (kn := gk knNone) (gk_ok knNone_ok) 100000 (rd37 m o) [.bool false] [] [(.bool (decide (m < o)), (.bool false))] (by kernel_rfl) (trs (⟨congrArg Value.bool h, trivial⟩)) (by kernel_rfl)
set_option maxHeartbeats 4000000 in
theorem rd38_ok (m o : Int) (h : decide (m < o) = false) : KnGOk Tryz.prog (kgMo (rd38 m o)) :=
  kgMo_ok (kn := gk knNone) (gk_ok knNone_ok) 100000 (rd38 m o) [.bool false] [] [(.bool (decide (m < o)), (.bool false))] (by kernel_rfl) (trs (⟨congrArg Value.bool h, trivial⟩)) (by kernel_rfl)
set_option maxHeartbeats 4000000 in
theorem rd40_ok (m o : Int)  : KnGOk Tryz.prog (kgMo (rd40 m o)) :=
  kgMo_ok (kn := gk knNone) (gk_ok knNone_ok) 100000 (rd40 m o) [] [] [] (by kernel_rfl) (trs (trivial)) (by kernel_rfl)
end Go.Proofs.YtmickhoededbcaaGreat


/-
  Runs of known calls, each in a small memory of its own.
-/
namespace Go.Proofs.YtmickhoededbcaaGreat
open Go Go.RowKit EX
set_option maxRecDepth 100000
set_option linter.unusedVariables false
set_option maxHeartbeats 4000000 in
theorem rd41_ok (m o : Int)  : KnGOk Tryz.prog (kgMo (rd41 m o)) :=
  kgMo_ok (kn := gk knNone) (gk_ok knNone_ok) 100000 (rd41 m o) [] [] [] (by kernel_rfl) (trs (trivial)) (by kernel_rfl)
set_option maxHeartbeats 4000000 in
theorem rd42_ok (m o : Int) (h : decide (m < o) = true) : KnGOk Tryz.prog (kgMo (rd42 m o)) :=
  kgMo_ok (kn := gk knNone) (gk_ok knNone_ok) 100000 (rd42 m o) [.bool true] [] [(.bool (decide (m < o)), (.bool true))] (by kernel_rfl) (trs (⟨congrArg Value.bool h, trivial⟩)) (by kernel_rfl)
set_option maxHeartbeats 4000000 in
theorem rd43_ok (m o : Int) (h : decide (m < o) = true) : KnGOk Tryz.prog (kgMo (rd43 m o)) :=
  kgMo_ok (kn := gk knNone) (gk_ok knNone_ok) 100000 (rd43 m o) [.bool true] [] [(.bool (decide (m < o)), (.bool true))] (by kernel_rfl) (trs (⟨congrArg Value.bool h, trivial⟩)) (by kernel_rfl)
end Go.Proofs.YtmickhoededbcaaGreat


/-
  Runs of known calls, each in a small memory of its own.
-/
namespace Go.Proofs.YtmickhoededbcaaGreat
open Go Go.RowKit EX
set_option maxRecDepth 100000
set_option linter.unusedVariables false
set_option maxHeartbeats 4000000 in
theorem rd44_ok (m o : Int) (h : decide (m < o) = true) : KnGOk Tryz.prog (kgMo (rd44 m o)) :=
  kgMo_ok (kn := gk knNone) (gk_ok knNone_ok) 100000 (rd44 m o) [.bool true] [] [(.bool (decide (m < o)), (.bool true))] (by kernel_rfl) (trs (⟨congrArg Value.bool h, trivial⟩)) (by kernel_rfl)
set_option maxHeartbeats 4000000 in
theorem rd45_ok (m o : Int) (h : decide (m < o) = true) : KnGOk Tryz.prog (kgMo (rd45 m o)) :=
  kgMo_ok (kn := gk knNone) (gk_ok knNone_ok) 100000 (rd45 m o) [.bool true] [] [(.bool (decide (m < o)), (.bool true))] (by kernel_rfl) (trs (⟨congrArg Value.bool h, trivial⟩)) (by kernel_rfl)
set_option maxHeartbeats 4000000 in
theorem rd46_ok (m o : Int) (h : decide (m < o) = true) : KnGOk Tryz.prog (kgMo (rd46 m o)) :=
  kgMo_ok (kn := gk knNone) (gk_ok knNone_ok) 100000 (rd46 m o) [.bool true] [] [(.bool (decide (m < o)), (.bool true))] (by kernel_rfl) (trs (⟨congrArg Value.bool h, trivial⟩)) (by kernel_rfl)
end Go.Proofs.YtmickhoededbcaaGreat


/-
  Runs of known calls, each in a small memory of its own.
-/
namespace Go.Proofs.YtmickhoededbcaaGreat
open Go Go.RowKit EX
set_option maxRecDepth 100000
set_option linter.unusedVariables false
set_option maxHeartbeats 4000000 in
theorem rd47_ok (m o : Int) (h : decide (m < o) = true) : KnGOk Tryz.prog (kgMo (rd47 m o)) :=
  kgMo_ok (kn := gk knNone) (gk_ok knNone_ok) 100000 (rd47 m o) [.bool true] [] [(.bool (decide (m < o)), (.bool true))] (by kernel_rfl) (trs (⟨congrArg Value.bool h, trivial⟩)) (by kernel_rfl)
set_option maxHeartbeats 4000000 in
theorem rd48_ok (m o : Int) (h : decide (m < o) = true) : KnGOk Tryz.prog (kgMo (rd48 m o)) :=
  kgMo_ok (kn := gk knNone) (gk_ok knNone_ok) 100000 (rd48 m o) [.bool true] [] [(.bool (decide (m < o)), (.bool true))] (by kernel_rfl) (trs (⟨congrArg Value.bool h, trivial⟩)) (by kernel_rfl)
set_option maxHeartbeats 4000000 in
theorem rd50_ok (m o : Int) (h : decide (m < o) = false) : KnGOk Tryz.prog (kgMo (rd50 m o)) :=
  kgMo_ok (kn := gk knNone) (gk_ok knNone_ok) 100000 (rd50 m o) [.bool false] [] [(.bool (decide (m < o)), (.bool false))] (by kernel_rfl) (trs (⟨congrArg Value.bool h, trivial⟩)) (by kernel_rfl)
end Go.Proofs.YtmickhoededbcaaGreat


/-
  Runs of known calls, each in a small memory of its own.
-/
namespace Go.Proofs.YtmickhoededbcaaGreat
open Go Go.RowKit EX
set_option maxRecDepth 100000
set_option linter.unusedVariables false
set_option maxHeartbeats 4000000 in
theorem rd27_ok (m o : Int)  : KnGOk Tryz.prog (kgMo (rd27 m o)) :=
  kgMo_ok (kn := gk knNone) (gk_ok knNone_ok) 100000 (rd27 m o) [] [] [] (by kernel_rfl) (trs (trivial)) (by kernel_rfl)
set_option maxHeartbeats 4000000 in
theorem rd28_ok (m o : Int)  : KnGOk Tryz.prog (kgMo (rd28 m o)) :=
  kgMo_ok (kn := gk knNone) (gk_ok knNone_ok) 100000 (rd28 m o) [] [] [] (by kernel_rfl) (trs (trivial)) (by kernel_rfl)
set_option maxHeartbeats 4000000 in
theorem rd29_ok (m o : Int) (h : decide (m < o) = true) : KnGOk Tryz.prog (kgMo (rd29 m o)) :=
  kgMo_ok (kn := gk knNone) (gk_ok knNone_ok) 100000 (rd29 m o) [.bool true] [] [(.bool (decide (m < o)), (.bool true))] (by kernel_rfl) (trs (⟨congrArg Value.bool h, trivial⟩)) (by kernel_rfl)
end Go.Proofs.YtmickhoededbcaaGreat


/-
  Runs of known calls, each in a small memory of its own.
-/
namespace Go.Proofs.YtmickhoededbcaaGreat
open Go Go.RowKit EX
set_option maxRecDepth 100000
set_option linter.unusedVariables false
set_option maxHeartbeats 4000000 in
theorem rd30_ok (m o : Int) (h : decide (m < o) = true) : KnGOk Tryz.prog (kgMo (rd30 m o)) :=
  kgMo_ok (kn := gk knNone) (gk_ok knNone_ok) 100000 (rd30 m o) [.bool true] [] [(.bool (decide (m < o)), (.bool true))] (by kernel_rfl) (trs (⟨congrArg Value.bool h, trivial⟩)) (by kernel_rfl)
set_option maxHeartbeats 4000000 in
theorem rd31_ok (m o : Int) (h : decide (m < o) = true) : KnGOk Tryz.prog (kgMo (rd31 m o)) :=
  kgMo_ok (kn := gk knNone) (gk_ok knNone_ok) 100000 (rd31 m o) [.bool true] [] [(.bool (decide (m < o)), (.bool true))] (by kernel_rfl) (trs (⟨congrArg Value.bool h, trivial⟩)) (by kernel_rfl)
set_option maxHeartbeats 4000000 in
theorem rd32_ok (m o : Int) (h : decide (m < o) = true) : KnGOk Tryz.prog (kgMo (rd32 m o)) :=
  kgMo_ok (kn := gk knNone) (gk_ok knNone_ok) 100000 (rd32 m o) [.bool true] [] [(.bool (decide (m < o)), (.bool true))] (by kernel_rfl) (trs (⟨congrArg Value.bool h, trivial⟩)) (by kernel_rfl)
end Go.Proofs.YtmickhoededbcaaGreat


/-
  Runs of known calls, each in a small memory of its own.
-/
namespace Go.Proofs.YtmickhoededbcaaGreat
open Go Go.RowKit EX
set_option maxRecDepth 100000
set_option linter.unusedVariables false
set_option maxHeartbeats 4000000 in
theorem rd36_ok (m o : Int) (h : decide (m < o) = true) : KnGOk Tryz.prog (kgMo (rd36 m o)) :=
  kgMo_ok (kn := kgOr (kgMo (rd1 m o)) (kgOr (kgMo (rd2 m o)) (kgOr (kgMo (rd3 m o)) (kgOr (kgMo (rd4 m o)) (kgOr (kgMo (rd27 m o)) (kgOr (kgMo (rd28 m o)) (kgOr (kgMo (rd29 m o)) (kgOr (kgMo (rd30 m o)) (kgOr (kgMo (rd31 m o)) (kgOr (kgMo (rd32 m o)) (kgOr (kgMo (rd33 m o)) (kgOr (kgMo (rd34 m o)) (kgOr (kgMo (rd35 m o)) (gk knNone)))))))))))))) (kgOr_ok (rd1_ok m o) (kgOr_ok (rd2_ok m o) (kgOr_ok (rd3_ok m o) (kgOr_ok (rd4_ok m o) (kgOr_ok (rd27_ok m o) (kgOr_ok (rd28_ok m o) (kgOr_ok (rd29_ok m o h) (kgOr_ok (rd30_ok m o h) (kgOr_ok (rd31_ok m o h) (kgOr_ok (rd32_ok m o h) (kgOr_ok (rd33_ok m o h) (kgOr_ok (rd34_ok m o h) (kgOr_ok (rd35_ok m o h) (gk_ok knNone_ok)))))))))))))) 100000 (rd36 m o) [] [213] [((.int .i64 m), (.int .i64 m)), ((.int .i64 o), (.int .i64 o)), ((.int .i64 m), (.int .i64 m)), ((.int .i64 o), (.int .i64 o)), ((.int .i64 m), (.int .i64 m)), ((.int .i64 o), (.int .i64 o)), ((.int .i64 m), (.int .i64 m)), ((.int .i64 o), (.int .i64 o)), ((.int .i64 m), (.int .i64 m)), ((.int .i64 o), (.int .i64 o)), ((.int .i64 m), (.int .i64 m)), ((.int .i64 o), (.int .i64 o)), ((.int .i64 m), (.int .i64 m)), ((.int .i64 o), (.int .i64 o)), ((.int .i64 m), (.int .i64 m)), ((.int .i64 o), (.int .i64 o)), ((.int .i64 m), (.int .i64 m)), ((.int .i64 m), (.int .i64 m)), ((.int .i64 m), (.int .i64 m)), ((.int .i64 m), (.int .i64 m)), ((.int .i64 m), (.int .i64 m))] (by kernel_rfl) (trs (⟨rfl, ⟨rfl, ⟨rfl, ⟨rfl, ⟨rfl, ⟨rfl, ⟨rfl, ⟨rfl, ⟨rfl, ⟨rfl, ⟨rfl, ⟨rfl, ⟨rfl, ⟨rfl, ⟨rfl, ⟨rfl, ⟨rfl, ⟨rfl, ⟨rfl, ⟨rfl, ⟨rfl, trivial⟩⟩⟩⟩⟩⟩⟩⟩⟩⟩⟩⟩⟩⟩⟩⟩⟩⟩⟩⟩⟩)) (by kernel_rfl)
set_option maxHeartbeats 4000000 in
theorem rd39_ok (m o : Int) (h : decide (m < o) = false) : KnGOk Tryz.prog (kgMo (rd39 m o)) :=
  kgMo_ok (kn := kgOr (kgMo (rd1 m o)) (kgOr (kgMo (rd2 m o)) (kgOr (kgMo (rd3 m o)) (kgOr (kgMo (rd4 m o)) (kgOr (kgMo (rd27 m o)) (kgOr (kgMo (rd28 m o)) (kgOr (kgMo (rd37 m o)) (kgOr (kgMo (rd38 m o)) (gk knNone))))))))) (kgOr_ok (rd1_ok m o) (kgOr_ok (rd2_ok m o) (kgOr_ok (rd3_ok m o) (kgOr_ok (rd4_ok m o) (kgOr_ok (rd27_ok m o) (kgOr_ok (rd28_ok m o) (kgOr_ok (rd37_ok m o h) (kgOr_ok (rd38_ok m o h) (gk_ok knNone_ok))))))))) 100000 (rd39 m o) [] [114] [((.int .i64 m), (.int .i64 m)), ((.int .i64 o), (.int .i64 o)), ((.int .i64 m), (.int .i64 m)), ((.int .i64 o), (.int .i64 o)), ((.int .i64 m), (.int .i64 m)), ((.int .i64 o), (.int .i64 o)), ((.int .i64 m), (.int .i64 m)), ((.int .i64 m), (.int .i64 m)), ((.int .i64 m), (.int .i64 m)), ((.int .i64 m), (.int .i64 m)), ((.int .i64 m), (.int .i64 m))] (by kernel_rfl) (trs (⟨rfl, ⟨rfl, ⟨rfl, ⟨rfl, ⟨rfl, ⟨rfl, ⟨rfl, ⟨rfl, ⟨rfl, ⟨rfl, ⟨rfl, trivial⟩⟩⟩⟩⟩⟩⟩⟩⟩⟩⟩)) (by kernel_rfl)
set_option maxHeartbeats 4000000 in
theorem rd49_ok (m o : Int) (h : decide (m < o) = true) : KnGOk Tryz.prog (kgMo (rd49 m o)) :=
  kgMo_ok (kn := kgOr (kgMo (rd1 m o)) (kgOr (kgMo (rd2 m o)) (kgOr (kgMo (rd3 m o)) (kgOr (kgMo (rd4 m o)) (kgOr (kgMo (rd40 m o)) (kgOr (kgMo (rd41 m o)) (kgOr (kgMo (rd42 m o)) (kgOr (kgMo (rd43 m o)) (kgOr (kgMo (rd44 m o)) (kgOr (kgMo (rd45 m o)) (kgOr (kgMo (rd46 m o)) (kgOr (kgMo (rd47 m o)) (kgOr (kgMo (rd48 m o)) (gk knNone)))))))))))))) (kgOr_ok (rd1_ok m o) (kgOr_ok (rd2_ok m o) (kgOr_ok (rd3_ok m o) (kgOr_ok (rd4_ok m o) (kgOr_ok (rd40_ok m o) (kgOr_ok (rd41_ok m o) (kgOr_ok (rd42_ok m o h) (kgOr_ok (rd43_ok m o h) (kgOr_ok (rd44_ok m o h) (kgOr_ok (rd45_ok m o h) (kgOr_ok (rd46_ok m o h) (kgOr_ok (rd47_ok m o h) (kgOr_ok (rd48_ok m o h) (gk_ok knNone_ok)))))))))))))) 100000 (rd49 m o) [] [213] [((.int .i64 m), (.int .i64 m)), ((.int .i64 o), (.int .i64 o)), ((.int .i64 m), (.int .i64 m)), ((.int .i64 o), (.int .i64 o)), ((.int .i64 m), (.int .i64 m)), ((.int .i64 o), (.int .i64 o)), ((.int .i64 m), (.int .i64 m)), ((.int .i64 o), (.int .i64 o)), ((.int .i64 m), (.int .i64 m)), ((.int .i64 o), (.int .i64 o)), ((.int .i64 m), (.int .i64 m)), ((.int .i64 o), (.int .i64 o)), ((.int .i64 m), (.int .i64 m)), ((.int .i64 o), (.int .i64 o)), ((.int .i64 m), (.int .i64 m)), ((.int .i64 o), (.int .i64 o)), ((.int .i64 m), (.int .i64 m)), ((.int .i64 m), (.int .i64 m)), ((.int .i64 m), (.int .i64 m)), ((.int .i64 m), (.int .i64 m)), ((.int .i64 m), (.int .i64 m))] (by kernel_rfl) (trs (⟨rfl, ⟨rfl, ⟨rfl, ⟨rfl, ⟨rfl, ⟨rfl, ⟨rfl, ⟨rfl, ⟨rfl, ⟨rfl, ⟨rfl, ⟨rfl, ⟨rfl, ⟨rfl, ⟨rfl, ⟨rfl, ⟨rfl, ⟨rfl, ⟨rfl, ⟨rfl, ⟨rfl, trivial⟩⟩⟩⟩⟩⟩⟩⟩⟩⟩⟩⟩⟩⟩⟩⟩⟩⟩⟩⟩⟩)) (by kernel_rfl)
end Go.Proofs.YtmickhoededbcaaGreat


/-
  Runs of known calls, each in a small memory of its own.
-/
namespace Go.Proofs.YtmickhoededbcaaGreat
open Go Go.RowKit EX
set_option maxRecDepth 100000
set_option linter.unusedVariables false
set_option maxHeartbeats 4000000 in
theorem rd51_ok (m o : Int) (h : decide (m < o) = false) : KnGOk Tryz.prog (kgMo (rd51 m o)) :=
  kgMo_ok (kn := gk knNone) (gk_ok knNone_ok) 100000 (rd51 m o) [.bool false] [] [(.bool (decide (m < o)), (.bool false))] (by kernel_rfl) (trs (⟨congrArg Value.bool h, trivial⟩)) (by kernel_rfl)
end Go.Proofs.YtmickhoededbcaaGreat


/-
  Runs of known calls, each in a small memory of its own.
-/
namespace Go.Proofs.YtmickhoededbcaaGreat
open Go Go.RowKit EX
set_option maxRecDepth 100000
set_option linter.unusedVariables false
set_option maxHeartbeats 4000000 in
theorem rd52_ok (m o : Int) (h : decide (m < o) = false) : KnGOk Tryz.prog (kgMo (rd52 m o)) :=
  kgMo_ok (kn := kgOr (kgMo (rd1 m o)) (kgOr (kgMo (rd2 m o)) (kgOr (kgMo (rd3 m o)) (kgOr (kgMo (rd4 m o)) (kgOr (kgMo (rd40 m o)) (kgOr (kgMo (rd41 m o)) (kgOr (kgMo (rd50 m o)) (kgOr (kgMo (rd51 m o)) (gk knNone))))))))) (kgOr_ok (rd1_ok m o) (kgOr_ok (rd2_ok m o) (kgOr_ok (rd3_ok m o) (kgOr_ok (rd4_ok m o) (kgOr_ok (rd40_ok m o) (kgOr_ok (rd41_ok m o) (kgOr_ok (rd50_ok m o h) (kgOr_ok (rd51_ok m o h) (gk_ok knNone_ok))))))))) 100000 (rd52 m o) [] [114] [((.int .i64 m), (.int .i64 m)), ((.int .i64 o), (.int .i64 o)), ((.int .i64 m), (.int .i64 m)), ((.int .i64 o), (.int .i64 o)), ((.int .i64 m), (.int .i64 m)), ((.int .i64 o), (.int .i64 o)), ((.int .i64 m), (.int .i64 m)), ((.int .i64 m), (.int .i64 m)), ((.int .i64 m), (.int .i64 m)), ((.int .i64 m), (.int .i64 m)), ((.int .i64 m), (.int .i64 m))] (by kernel_rfl) (trs (⟨rfl, ⟨rfl, ⟨rfl, ⟨rfl, ⟨rfl, ⟨rfl, ⟨rfl, ⟨rfl, ⟨rfl, ⟨rfl, ⟨rfl, trivial⟩⟩⟩⟩⟩⟩⟩⟩⟩⟩⟩)) (by kernel_rfl)
end Go.Proofs.YtmickhoededbcaaGreat


/-
  Layer 24: visible readers: one run for each kind of the reader's status.
-/
namespace Go.Proofs.YtmickhoededbcaaGreat
open Go Go.RowKit EX
set_option maxRecDepth 100000
set_option linter.unusedVariables false
set_option linter.unusedSimpArgs false
set_option maxHeartbeats 4000000 in
theorem cr_0 (w : World) (m o a : Int) (hm : IntKind.i64.wrap m = m) (ho : IntKind.i64.wrap o = o) (ha : IntKind.i64.wrap (Int.tmod a 4) = 0) (h0 : (Int.tmod a 4 != 0) = false) (h1 : (Int.tmod a 4 == 1) = false) : Calls Tryz.prog 4 #[.int .u8 m, .int .u8 o, .int .u8 a] w fun e w' => e = .returned (.bool true) ∧ Below w.heap.size w w' :=
  ex_valG (kn := kgOr (kg24 0) (kgOr (kgMo (rd0 m o)) (kgOr (kgMo (rd12 m o)) (gk knNone)))) (kgOr_ok (kg24_ok 0) (kgOr_ok (rd0_ok m o) (kgOr_ok (rd12_ok m o) (gk_ok knNone_ok)))) 100000 [.y (.int .u8 m), .y (.int .u8 o), .y (.int .u8 a)] [.bool false, .bool false] [(.bool (Int.tmod a 4 == 1), .bool false), (.int .i64 (IntKind.i64.wrap (Int.tmod a 4)), .int .i64 0), (.bool (Int.tmod a 4 != 0), .bool false), (.int .i64 (IntKind.i64.wrap m), .int .i64 m), (.int .i64 (IntKind.i64.wrap o), .int .i64 o), (.int .i64 (IntKind.i64.wrap (Int.tmod a 4)), .int .i64 0)] (by kernel_rfl) (by simp [denL, den]) (by simp [bdL, bd]) (trs (⟨congrArg Value.bool h1, ⟨congrArg (Value.int .i64) ha, ⟨congrArg Value.bool h0, ⟨congrArg (Value.int .i64) hm, ⟨congrArg (Value.int .i64) ho, ⟨congrArg (Value.int .i64) ha, trivial⟩⟩⟩⟩⟩⟩))
set_option maxHeartbeats 4000000 in
theorem cr_1t (w : World) (m o a : Int) (hm : IntKind.i64.wrap m = m) (ho : IntKind.i64.wrap o = o) (h : decide (m < o) = true) (hg : decide (m ≥ o) = false) (ha : IntKind.i64.wrap (Int.tmod a 4) = 1) (h0 : (Int.tmod a 4 != 0) = true) (h1 : (Int.tmod a 4 == 1) = true) : Calls Tryz.prog 4 #[.int .u8 m, .int .u8 o, .int .u8 a] w fun e w' => e = .returned (.bool true) ∧ Below w.heap.size w w' :=
  ex_valG (kn := kgOr (kg24 1) (kgOr (kgMo (rd0 m o)) (kgOr (kgMo (rd23 m o)) (gk knNone)))) (kgOr_ok (kg24_ok 1) (kgOr_ok (rd0_ok m o) (kgOr_ok (rd23_ok m o h) (gk_ok knNone_ok)))) 100000 [.y (.int .u8 m), .y (.int .u8 o), .y (.int .u8 a)] [.bool true, .bool false, .bool true] [(.bool (Int.tmod a 4 == 1), .bool true), (.int .i64 (IntKind.i64.wrap (Int.tmod a 4)), .int .i64 1), (.bool (decide (m ≥ o)), .bool false), (.bool (Int.tmod a 4 != 0), .bool true), (.int .i64 (IntKind.i64.wrap m), .int .i64 m), (.int .i64 (IntKind.i64.wrap o), .int .i64 o), (.int .i64 (IntKind.i64.wrap (Int.tmod a 4)), .int .i64 1)] (by kernel_rfl) (by simp [denL, den]) (by simp [bdL, bd]) (trs (⟨congrArg Value.bool h1, ⟨congrArg (Value.int .i64) ha, ⟨congrArg Value.bool hg, ⟨congrArg Value.bool h0, ⟨congrArg (Value.int .i64) hm, ⟨congrArg (Value.int .i64) ho, ⟨congrArg (Value.int .i64) ha, trivial⟩⟩⟩⟩⟩⟩⟩))
set_option maxHeartbeats 4000000 in
theorem cr_1f (w : World) (m o a : Int) (hm : IntKind.i64.wrap m = m) (ho : IntKind.i64.wrap o = o) (h : decide (m < o) = false) (hg : decide (m ≥ o) = true) (ha : IntKind.i64.wrap (Int.tmod a 4) = 1) (h0 : (Int.tmod a 4 != 0) = true) (h1 : (Int.tmod a 4 == 1) = true) : Calls Tryz.prog 4 #[.int .u8 m, .int .u8 o, .int .u8 a] w fun e w' => e = .returned (.bool true) ∧ Below w.heap.size w w' :=
  ex_valG (kn := kgOr (kg24 1) (kgOr (kgMo (rd0 m o)) (kgOr (kgMo (rd26 m o)) (gk knNone)))) (kgOr_ok (kg24_ok 1) (kgOr_ok (rd0_ok m o) (kgOr_ok (rd26_ok m o h) (gk_ok knNone_ok)))) 100000 [.y (.int .u8 m), .y (.int .u8 o), .y (.int .u8 a)] [.bool true, .bool true] [(.int .i64 (IntKind.i64.wrap (Int.tmod a 4)), .int .i64 1), (.bool (decide (m ≥ o)), .bool true), (.bool (Int.tmod a 4 != 0), .bool true), (.int .i64 (IntKind.i64.wrap m), .int .i64 m), (.int .i64 (IntKind.i64.wrap o), .int .i64 o), (.int .i64 (IntKind.i64.wrap (Int.tmod a 4)), .int .i64 1)] (by kernel_rfl) (by simp [denL, den]) (by simp [bdL, bd]) (trs (⟨congrArg (Value.int .i64) ha, ⟨congrArg Value.bool hg, ⟨congrArg Value.bool h0, ⟨congrArg (Value.int .i64) hm, ⟨congrArg (Value.int .i64) ho, ⟨congrArg (Value.int .i64) ha, trivial⟩⟩⟩⟩⟩⟩))
set_option maxHeartbeats 4000000 in
theorem cr_2t (w : World) (m o a : Int) (hm : IntKind.i64.wrap m = m) (ho : IntKind.i64.wrap o = o) (h : decide (m < o) = true) (hg : decide (m ≥ o) = false) (ha : IntKind.i64.wrap (Int.tmod a 4) = 2) (h0 : (Int.tmod a 4 != 0) = true) (h1 : (Int.tmod a 4 == 1) = false) : Calls Tryz.prog 4 #[.int .u8 m, .int .u8 o, .int .u8 a] w fun e w' => e = .returned (.bool true) ∧ Below w.heap.size w w' :=
  ex_valG (kn := kgOr (kg24 2) (kgOr (kgMo (rd0 m o)) (kgOr (kgMo (rd36 m o)) (gk knNone)))) (kgOr_ok (kg24_ok 2) (kgOr_ok (rd0_ok m o) (kgOr_ok (rd36_ok m o h) (gk_ok knNone_ok)))) 100000 [.y (.int .u8 m), .y (.int .u8 o), .y (.int .u8 a)] [.bool true, .bool false, .bool false] [(.bool (Int.tmod a 4 == 1), .bool false), (.int .i64 (IntKind.i64.wrap (Int.tmod a 4)), .int .i64 2), (.bool (decide (m ≥ o)), .bool false), (.bool (Int.tmod a 4 != 0), .bool true), (.int .i64 (IntKind.i64.wrap m), .int .i64 m), (.int .i64 (IntKind.i64.wrap o), .int .i64 o), (.int .i64 (IntKind.i64.wrap (Int.tmod a 4)), .int .i64 2)] (by kernel_rfl) (by simp [denL, den]) (by simp [bdL, bd]) (trs (⟨congrArg Value.bool h1, ⟨congrArg (Value.int .i64) ha, ⟨congrArg Value.bool hg, ⟨congrArg Value.bool h0, ⟨congrArg (Value.int .i64) hm, ⟨congrArg (Value.int .i64) ho, ⟨congrArg (Value.int .i64) ha, trivial⟩⟩⟩⟩⟩⟩⟩))
set_option maxHeartbeats 4000000 in
theorem cr_2f (w : World) (m o a : Int) (hm : IntKind.i64.wrap m = m) (ho : IntKind.i64.wrap o = o) (h : decide (m < o) = false) (hg : decide (m ≥ o) = true) (ha : IntKind.i64.wrap (Int.tmod a 4) = 2) (h0 : (Int.tmod a 4 != 0) = true) (h1 : (Int.tmod a 4 == 1) = false) : Calls Tryz.prog 4 #[.int .u8 m, .int .u8 o, .int .u8 a] w fun e w' => e = .returned (.bool true) ∧ Below w.heap.size w w' :=
  ex_valG (kn := kgOr (kg24 2) (kgOr (kgMo (rd0 m o)) (kgOr (kgMo (rd39 m o)) (gk knNone)))) (kgOr_ok (kg24_ok 2) (kgOr_ok (rd0_ok m o) (kgOr_ok (rd39_ok m o h) (gk_ok knNone_ok)))) 100000 [.y (.int .u8 m), .y (.int .u8 o), .y (.int .u8 a)] [.bool true, .bool true] [(.int .i64 (IntKind.i64.wrap (Int.tmod a 4)), .int .i64 2), (.bool (decide (m ≥ o)), .bool true), (.bool (Int.tmod a 4 != 0), .bool true), (.int .i64 (IntKind.i64.wrap m), .int .i64 m), (.int .i64 (IntKind.i64.wrap o), .int .i64 o), (.int .i64 (IntKind.i64.wrap (Int.tmod a 4)), .int .i64 2)] (by kernel_rfl) (by simp [denL, den]) (by simp [bdL, bd]) (trs (⟨congrArg (Value.int .i64) ha, ⟨congrArg Value.bool hg, ⟨congrArg Value.bool h0, ⟨congrArg (Value.int .i64) hm, ⟨congrArg (Value.int .i64) ho, ⟨congrArg (Value.int .i64) ha, trivial⟩⟩⟩⟩⟩⟩))
set_option maxHeartbeats 4000000 in
theorem cr_3t (w : World) (m o a : Int) (hm : IntKind.i64.wrap m = m) (ho : IntKind.i64.wrap o = o) (h : decide (m < o) = true) (hg : decide (m ≥ o) = false) (ha : IntKind.i64.wrap (Int.tmod a 4) = 3) (h0 : (Int.tmod a 4 != 0) = true) (h1 : (Int.tmod a 4 == 1) = false) : Calls Tryz.prog 4 #[.int .u8 m, .int .u8 o, .int .u8 a] w fun e w' => e = .returned (.bool true) ∧ Below w.heap.size w w' :=
  ex_valG (kn := kgOr (kg24 3) (kgOr (kgMo (rd0 m o)) (kgOr (kgMo (rd49 m o)) (gk knNone)))) (kgOr_ok (kg24_ok 3) (kgOr_ok (rd0_ok m o) (kgOr_ok (rd49_ok m o h) (gk_ok knNone_ok)))) 100000 [.y (.int .u8 m), .y (.int .u8 o), .y (.int .u8 a)] [.bool true, .bool false, .bool false] [(.bool (Int.tmod a 4 == 1), .bool false), (.int .i64 (IntKind.i64.wrap (Int.tmod a 4)), .int .i64 3), (.bool (decide (m ≥ o)), .bool false), (.bool (Int.tmod a 4 != 0), .bool true), (.int .i64 (IntKind.i64.wrap m), .int .i64 m), (.int .i64 (IntKind.i64.wrap o), .int .i64 o), (.int .i64 (IntKind.i64.wrap (Int.tmod a 4)), .int .i64 3)] (by kernel_rfl) (by simp [denL, den]) (by simp [bdL, bd]) (trs (⟨congrArg Value.bool h1, ⟨congrArg (Value.int .i64) ha, ⟨congrArg Value.bool hg, ⟨congrArg Value.bool h0, ⟨congrArg (Value.int .i64) hm, ⟨congrArg (Value.int .i64) ho, ⟨congrArg (Value.int .i64) ha, trivial⟩⟩⟩⟩⟩⟩⟩))
set_option maxHeartbeats 4000000 in
theorem cr_3f (w : World) (m o a : Int) (hm : IntKind.i64.wrap m = m) (ho : IntKind.i64.wrap o = o) (h : decide (m < o) = false) (hg : decide (m ≥ o) = true) (ha : IntKind.i64.wrap (Int.tmod a 4) = 3) (h0 : (Int.tmod a 4 != 0) = true) (h1 : (Int.tmod a 4 == 1) = false) : Calls Tryz.prog 4 #[.int .u8 m, .int .u8 o, .int .u8 a] w fun e w' => e = .returned (.bool true) ∧ Below w.heap.size w w' :=
  ex_valG (kn := kgOr (kg24 3) (kgOr (kgMo (rd0 m o)) (kgOr (kgMo (rd52 m o)) (gk knNone)))) (kgOr_ok (kg24_ok 3) (kgOr_ok (rd0_ok m o) (kgOr_ok (rd52_ok m o h) (gk_ok knNone_ok)))) 100000 [.y (.int .u8 m), .y (.int .u8 o), .y (.int .u8 a)] [.bool true, .bool true] [(.int .i64 (IntKind.i64.wrap (Int.tmod a 4)), .int .i64 3), (.bool (decide (m ≥ o)), .bool true), (.bool (Int.tmod a 4 != 0), .bool true), (.int .i64 (IntKind.i64.wrap m), .int .i64 m), (.int .i64 (IntKind.i64.wrap o), .int .i64 o), (.int .i64 (IntKind.i64.wrap (Int.tmod a 4)), .int .i64 3)] (by kernel_rfl) (by simp [denL, den]) (by simp [bdL, bd]) (trs (⟨congrArg (Value.int .i64) ha, ⟨congrArg Value.bool hg, ⟨congrArg Value.bool h0, ⟨congrArg (Value.int .i64) hm, ⟨congrArg (Value.int .i64) ho, ⟨congrArg (Value.int .i64) ha, trivial⟩⟩⟩⟩⟩⟩))
end Go.Proofs.YtmickhoededbcaaGreat
