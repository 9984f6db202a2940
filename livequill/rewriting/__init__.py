"""Notes on programs, simpler trees and the code of them."""
